import Derived.Test.YtaefmdofchjofaaRdE
/- Layer 7: Decode's machine. -/
namespace Go.Proofs.Ytaefmdofchjofaa
open Go.RowKit Go.Sort
theorem row_uniq {W : World} {B B' : Nat} {e e' : TypeId} {size : Nat} {v : Value} {n : Nat} {xs ys : List Value} (h : W.ownsRow B e size v n xs) (h' : W.ownsRow B' e' size v n ys) : xs = ys := by
  have l1 := h.1
  have l2 := h'.1
  rcases h.2 with ⟨_, h0⟩ | ⟨g, cap, cur, rfl, _, hg, _, _, _, ht⟩
  · subst h0
    rw [Nat.zero_mul] at l1 l2
    rw [List.eq_nil_of_length_eq_zero l1, List.eq_nil_of_length_eq_zero l2]
  · rcases h'.2 with ⟨x, _⟩ | ⟨g', cap', cur', x, _, hg', _, _, _, ht'⟩
    · cases x
    · injection x with x _ _
      injection x with x
      injection x with x
      subst x
      rw [hg] at hg'
      injection hg' with hg'
      injection hg' with hc
      subst hc
      rw [← ht, ← ht']
theorem Stk.row {B : Nat} {W : World} {sv v : Value} {e : Nat} {ts : List Tr} {L : List LvT} {M : Nat} (h : Stk B W sv ((e, ts, v) :: L) M) : ∃ ps : List (Value × Value), ps.length = ts.length ∧ W.ownsRow 0 48 3 v ts.length (itC ts ps) ∧ (∀ k, v.ownBlock = some k → B ≤ k ∧ sv.ownBlock ≠ some k) ∧ ∃ va vc, v = .slice va ts.length vc := by
  obtain ⟨_, h2, _⟩ := h
  rw [Lv7] at h2
  obtain ⟨m, _, ⟨ps, p1, p2, p3, _⟩, k3⟩ := h2
  have hb := k3.base
  refine ⟨ps, p1, p2, fun k hk => ⟨?_, (p3 k hk).2.2⟩, ?_⟩
  · have := (p3 k hk).1; omega
  · rcases p2.2 with ⟨x, y⟩ | ⟨g, cap, _, x, _⟩
    · simp only at x y
      exact ⟨none, 0, by rw [x, y]⟩
    · exact ⟨_, cap, x⟩
theorem stored3 {W : World} {B : Nat} {e : TypeId} {g n cap : Nat} {xs : List Value} {z0 z1 z2 u0 u1 u2 : Value} (hx : xs.length = n * 3) (h : W.ownsRow B e 3 (.slice (some ⟨g, 0, none⟩) (n + 1) cap) (n + 1) (xs ++ [z0, z1, z2])) : (W.setCells g (n * 3) [u0, u1, u2]).ownsRow B e 3 (.slice (some ⟨g, 0, none⟩) (n + 1) cap) (n + 1) (xs ++ [u0, u1, u2]) := by
  have h1 := (World.ownsRow.stored h (n * 3) u0).1
  have h2 := (World.ownsRow.stored h1 (n * 3 + 1) u1).1
  have h3 := (World.ownsRow.stored h2 (n * 3 + 1 + 1) u2).1
  rw [World.setCells, World.setCells, World.setCells, World.setCells]
  have e : (((xs ++ [z0, z1, z2]).set (n * 3) u0).set (n * 3 + 1) u1).set (n * 3 + 1 + 1) u2 = xs ++ [u0, u1, u2] := by
    rw [← hx, List.set_append_right _ _ (Nat.le_refl _), Nat.sub_self, List.set_append_right _ _ (by omega), List.set_append_right _ _ (by omega)]
    rw [show xs.length + 1 - xs.length = 1 by omega, show xs.length + 1 + 1 - xs.length = 2 by omega]
    rfl
  rw [e] at h3
  exact h3
/-- The state behind 'in.items = append(in.items, it)'. -/
theorem item_done {w0 W W2 W4 : World} {g k cap e g2 cap2 : Nat} {ts : List Tr} {t : Tr} {v d q : Value} {L : List LvT} {M : Nat} {ps : List (Value × Value)} (hk : L.length = k) (DM : Dm w0 W) (SK : Stk (w0.heap.size + 3) W (.slice (some ⟨g, 0, none⟩) (k + 1) cap) ((e, ts, v) :: L) M) (OT : Ot W t (fun j => M ≤ j ∧ (some g : Option Nat) ≠ some j) d q)
    (p2 : W.ownsRow 0 48 3 v ts.length (itC ts ps)) (hz : W.heap.size ≤ W2.heap.size) (hb : ∀ j, j < W.heap.size → v.ownBlock ≠ some j → W2.heap[j]? = W.heap[j]?) (hos : W2.os = W.os ∧ W2.tape = W.tape ∧ W2.output = W.output)
    (ho : W2.ownsRow 0 48 3 (.slice (some ⟨g2, 0, none⟩) (ts.length + 1) cap2) (ts.length + 1) (itC ts ps ++ [.bool false, .slice none 0 0, .slice none 0 0])) (hv : v.ownBlock = some g2 ∨ W.heap.size ≤ g2) (vg : ∀ j, v.ownBlock = some j → w0.heap.size + 3 ≤ j ∧ g ≠ j)
    (q1 : W4.heap.size = W2.heap.size) (q2 : ∀ j, j ≠ g → j ≠ g2 → W4.heap[j]? = W2.heap[j]?) (q3 : W4.heap[g2]? = (W2.setCells g2 (ts.length * 3) [.bool t.l, d, q]).heap[g2]?) (q4 : W4.heap[g]? = (W2.setCell ⟨g, k * 2 + 1, none⟩ (.slice (some ⟨g2, 0, none⟩) (ts.length + 1) cap2)).heap[g]?) (q5 : W4.os = W2.os ∧ W4.tape = W2.tape ∧ W4.output = W2.output) :
    Dm w0 W4 ∧ Stk (w0.heap.size + 3) W4 (.slice (some ⟨g, 0, none⟩) (k + 1) cap) ((e, ts ++ [t], .slice (some ⟨g2, 0, none⟩) (ts.length + 1) cap2) :: L) W4.heap.size := by
  obtain ⟨g', cap', eg, _, gB, gW, _⟩ := SK.top
  injection eg with eg _ _
  injection eg with eg
  injection eg with eg
  subst eg
  have ds := DM.size
  have gB2 : w0.heap.size + 3 ≤ g2 := by
    rcases hv with x | x
    · exact (vg _ x).1
    · omega
  have gne : g ≠ g2 := by
    rcases hv with x | x
    · exact (vg _ x).2
    · omega
  have chg : ChgT (fun j => w0.heap.size + 3 ≤ j) W W4 := ⟨q5.1.trans hos.1, q5.2.1.trans hos.2.1, q5.2.2.trans hos.2.2, by omega, fun j hj hn => (q2 j (by omega) (by omega)).trans (hb j hj fun x => hn (vg j x).1)⟩
  refine ⟨DM.chg chg, SK.item OT (fun ps' p1' p2' => ?_) ?_ (by omega) (fun j hj hn1 hn2 => ?_) (fun j hj => ?_)⟩
  · rw [row_uniq p2' p2]
    refine row_kept (stored3 (u0 := .bool t.l) (u1 := d) (u2 := q) ?_ ho) fun j x _ => ?_
    · have := p2.1; exact this
    · have : g2 = j := Option.some.inj x
      subst this
      exact q3
  · have h2 : W2.ownsRow (w0.heap.size + 3) 84 2 (.slice (some ⟨g, 0, none⟩) (k + 1) cap) (k + 1) (stC ((e, ts, v) :: L)) := by
      have := SK.1
      rw [List.length_cons, hk] at this
      exact row_kept this fun j x hj => hb j hj fun y => by
        have : g = j := Option.some.inj x
        exact (vg j y).2 this
    have h3 := (World.ownsRow.stored h2 (k * 2 + 1) (.slice (some ⟨g2, 0, none⟩) (ts.length + 1) cap2)).1
    have e2 : (stC ((e, ts, v) :: L)).set (k * 2 + 1) (.slice (some ⟨g2, 0, none⟩) (ts.length + 1) cap2) = stC L ++ [.int .i64 (e : Int), .slice (some ⟨g2, 0, none⟩) (ts.length + 1) cap2] := by
      have hl := stC_len L
      rw [stC, List.set_append_right _ _ (by omega), show k * 2 + 1 - (stC L).length = 1 by omega]
      rfl
    rw [e2] at h3
    rw [hk]
    refine row_kept h3 fun j x _ => ?_
    have : g = j := Option.some.inj x
    subst this
    exact q4
  · have e1 : j ≠ g := fun x => hn1 (by rw [x]; rfl)
    by_cases e2 : j = g2
    · subst e2
      rcases hv with x | x
      · exact absurd x hn2
      · omega
    · exact (q2 j e1 e2).trans (hb j hj hn2)
  · have : g2 = j := Option.some.inj hj
    subst this
    rcases hv with x | x
    · exact .inl x
    · exact .inr ⟨x, fun y => gne (Option.some.inj y)⟩
theorem size_setCells (b : Nat) : ∀ (vs : List Value) (o : Nat) (W : World), (W.setCells b o vs).heap.size = W.heap.size
  | [], _, _ => rfl
  | v :: r, o, W => by rw [World.setCells, size_setCells b r]; simp
theorem heap_other_setCells (b : Nat) (vs : List Value) (o : Nat) (W : World) {j : Nat} (h : j ≠ b) : (W.setCells b o vs).heap[j]? = W.heap[j]? := by
  have c := chg_setCells b vs o W
  by_cases hj : j < W.heap.size
  · exact c.block j hj h
  · have e : (W.setCells b o vs).heap.size = W.heap.size := size_setCells b vs o W
    rw [Array.getElem?_eq_none (by omega), Array.getElem?_eq_none (by omega)]
theorem heap_set_same {W W' : World} {g i : Nat} (v : Value) (h : W'.heap[g]? = W.heap[g]?) : (W'.setCell ⟨g, i, none⟩ v).heap[g]? = (W.setCell ⟨g, i, none⟩ v).heap[g]? := by
  by_cases k : ∃ cs e fz, W.heap[g]? = some (.cells cs e fz)
  · obtain ⟨cs, e, fz, hk⟩ := k
    simp only [World.setCell]
    simp [Array.getElem?_modify, h, hk]
  · simp only [World.setCell]
    simp [Array.getElem?_modify, h]
theorem heap_setCells_same (g : Nat) : ∀ (vs : List Value) (o : Nat) {W W' : World}, W'.heap[g]? = W.heap[g]? → (W'.setCells g o vs).heap[g]? = (W.setCells g o vs).heap[g]?
  | [], _, _, _, h => h
  | v :: r, o, _, _, h => by rw [World.setCells, World.setCells]; exact heap_setCells_same g r (o + 1) (heap_set_same v h)
set_option maxRecDepth 100000 in
set_option maxHeartbeats 8000000 in
theorem end_in {A : List Int} {R : Int × Tr} {QQ : Exit → Act → World → Prop} {inn ev qv d q v : Value} {ba : Option Addr} {bn bc p n g cap e : Nat} {ts : List Tr} {t : Tr} {L : List LvT} {M : Nat} (w0 W : World)
    (DM : Hid (Dm w0 W)) (SK : Hid (Stk (w0.heap.size + 3) W (.slice (some ⟨g, 0, none⟩) (L.length + 1) cap) ((e, ts, v) :: L) M)) (RT : Hid (W.rangeAt (w0.heap.size + 2) 0 [.bool t.l, d, q])) (OT : Hid (Ot W t (fun j => M ≤ j ∧ (some g : Option Nat) ≠ some j) d q))
    (HQ : Hid (∀ c a d v w, QQ (.panic c) (Act.put a d v) w → QQ (.panic c) a w)) (HN : Hid (4 * (A.length - p) + 2 * (L.length + 1) + 2 < n)) (HR : Hid (R = insD A e (ts ++ [t]) L p)) (HW : Hid (p ≤ e ∧ WfD A e L ∧ CnS p L ∧ ts.length + 1 ≤ p ∧ L.length + 1 ≤ 1024 ∧ A.length ≤ 16777216))
    (x11 x12 x13 x14 x15 x16 x17 x18 x19 x20 x21 x22 x23 x24 x25 x26 x27 x28 x29 x30 x31 x32 x33 x34 x35 x36 x37 x38 x39 x40 x41 x42 x43 x44 x45 x46 x47 x48 x49 x50 x51 x52 x53 x54 x55 x56 x57 x58 x59 x60 x61 x62 x63 x64 x65 x66 x67 x68 x69 x70 x71 x72 x73 x74 x75 x76 x77 x78 x79 x80 x81 x82 x83 x84 x85 x86 x87 x88 x89 x90 x91 x92 x93 x94 x95 x96 x97 x98 x99 x100 x101 x102 x103 : Value) : WpLab Try.prog Try.f24 3 (jumps (fun l a w => ∃ m, m < n ∧ JD A (.slice ba bn bc) w0 R m l a w) QQ) { tmps := #[.slice ba bn bc, undef, .pointer (some ⟨w0.heap.size, 0, none⟩), .int .i64 0, .slice (some ⟨g, 0, none⟩) (L.length + 1) cap, inn, .int .i64 (p : Int), qv, .pointer (some ⟨w0.heap.size + 1, 0, none⟩), .pointer (some ⟨w0.heap.size + 2, 0, none⟩), ev, x11, x12, x13, x14, x15, x16, x17, x18, x19, x20, x21, x22, x23, x24, x25, x26, x27, x28, x29, x30, x31, x32, x33, x34, x35, x36, x37, x38, x39, x40, x41, x42, x43, x44, x45, x46, x47, x48, x49, x50, x51, x52, x53, x54, x55, x56, x57, x58, x59, x60, x61, x62, x63, x64, x65, x66, x67, x68, x69, x70, x71, x72, x73, x74, x75, x76, x77, x78, x79, x80, x81, x82, x83, x84, x85, x86, x87, x88, x89, x90, x91, x92, x93, x94, x95, x96, x97, x98, x99, x100, x101, x102, x103], defers := [] } W := by
  refine WpLab.intro (by rfl) (by rfl) ?_
  have hL : (L.length : Int) ≤ 1024 := by have := HW.out.2.2.2.2.1; omega
  obtain ⟨ps, p1, p2, p3, va, vc, rfl⟩ := SK.out.row
  obtain ⟨g', cap', eg, _, gB, gW, _, cv, _, fv⟩ := SK.out.top
  injection eg with eg _ ecap
  injection eg with eg
  injection eg with eg
  subst eg ecap
  have CV : Hid (W.cell? ⟨g, L.length * 2 + 1, none⟩ = some (.slice va ts.length vc) ∧ W.frozen? ⟨g, L.length * 2 + 1, none⟩ = false ∧ g < W.heap.size ∧ w0.heap.size + 3 ≤ g) := ⟨cv, fv, gW, gB⟩
  have PS : Hid (ps.length = ts.length ∧ W.ownsRow 0 48 3 (.slice va ts.length vc) ts.length (itC ts ps) ∧ ∀ j, (Value.slice va ts.length vc).ownBlock = some j → w0.heap.size + 3 ≤ j ∧ g ≠ j) := ⟨p1, p2, fun j hj => ⟨(p3 j hj).1, fun x => (p3 j hj).2 (by rw [x]; rfl)⟩⟩
  obtain ⟨da, dn, dc, qa, qn, qc, rfl, rfl⟩ := (Ot.it _ OT.out).slices
  clear cv fv gW gB p1 p2 p3
  have HP : Hid (ts.length + 1 ≤ 16777216 ∧ e ≤ A.length) := ⟨by have h1 := HW.out.1; have h2 := HW.out.2.1.le; have h3 := HW.out.2.2.2.1; have h4 := HW.out.2.2.2.2.2; omega, HW.out.2.1.le⟩
  generalize hk : L.length = k at *
  have HK : Hid (L.length = k) := hk
  clear hk
  generalize hm : ts.length = m at *
  have HM : Hid (ts.length = m) := hm
  clear hm
  go_wp2_with fail
  refine wp_region_bar 7 (S := fun w' => w'.cell? ⟨g, k * 2 + 1, none⟩ = some (.slice va m vc) ∧ w'.rangeAt (w0.heap.size + 2) 0 [.bool t.l, .slice da dn dc, .slice qa qn qc] ∧ Below W.heap.size W w') (by kernel_rfl) ⟨CV.out.1, RT.out, (Below.refl _ _).drew⟩ (fun hHeld => ?_)
  refine wpAnyB_takeD (i := 0) (oi := _) (v := .pointer (some ⟨g, k * 2, none⟩)) 86 rfl rfl (by kernel_rfl) (by kernel_rfl) (by kernel_rfl) (by kernel_rfl) (fun c a w h => HQ.out c a _ _ w h) (Or.inl ⟨by kernel_rfl, fun wq hSw => by obtain ⟨x0, x1, x2⟩ := hSw; go_simp⟩) (by assumption) ?_
  simp only [Act.put, List.setIfInBounds_toArray, List.set_cons_succ, List.set_cons_zero]
  refine wpAnyB_takeD (i := 1) (oi := _) (v := .pointer (some ⟨g, k * 2, none⟩)) 87 rfl rfl (by kernel_rfl) (by kernel_rfl) (by kernel_rfl) (by kernel_rfl) (fun c a w h => HQ.out c a _ _ w h) (Or.inl ⟨by kernel_rfl, fun wq hSw => by obtain ⟨x0, x1, x2⟩ := hSw; go_simp⟩) (by assumption) ?_
  simp only [Act.put, List.setIfInBounds_toArray, List.set_cons_succ, List.set_cons_zero]
  refine wpAnyB_takeD (i := 2) (oi := _) (v := .pointer (some ⟨g, k * 2 + 1, none⟩)) 88 rfl rfl (by kernel_rfl) (by kernel_rfl) (by kernel_rfl) (by kernel_rfl) (fun c a w h => HQ.out c a _ _ w h) (Or.inl ⟨by kernel_rfl, fun wq hSw => by obtain ⟨x0, x1, x2⟩ := hSw; go_simp⟩) (by assumption) ?_
  simp only [Act.put, List.setIfInBounds_toArray, List.set_cons_succ, List.set_cons_zero]
  refine wpAnyB_takeD (i := 3) (oi := _) (v := .slice va m vc) 89 rfl rfl (by kernel_rfl) (by kernel_rfl) (by kernel_rfl) (by kernel_rfl) (fun c a w h => HQ.out c a _ _ w h) (Or.inl ⟨by kernel_rfl, fun wq hSw => by obtain ⟨x0, x1, x2⟩ := hSw; go_simp⟩) (by assumption) ?_
  simp only [Act.put, List.setIfInBounds_toArray, List.set_cons_succ, List.set_cons_zero]
  refine wpAnyB_takeD (i := 4) (oi := _) (v := .agg #[.bool t.l, .slice da dn dc, .slice qa qn qc]) 90 rfl rfl (by kernel_rfl) (by kernel_rfl) (by kernel_rfl) (by kernel_rfl) (fun c a w h => HQ.out c a _ _ w h) (yieldsIf_load_mid (by kernel_rfl) _ _ rfl (w0.heap.size + 2) 0 rfl [.bool t.l, .slice da dn dc, .slice qa qn qc] _ (fun w h => h.2.1) Try.underlying48 rfl size_it) (by assumption) ?_
  simp only [Act.put, List.setIfInBounds_toArray, List.set_cons_succ, List.set_cons_zero]
  refine wpAnyB_takeD (i := 5) (oi := _) (v := .int .i64 (m : Int)) 91 rfl rfl (by kernel_rfl) (by kernel_rfl) (by kernel_rfl) (by kernel_rfl) (fun c a w h => HQ.out c a _ _ w h) (Or.inl ⟨by kernel_rfl, fun wq hSw => by obtain ⟨x0, x1, x2⟩ := hSw; go_simp⟩) (by assumption) ?_
  simp only [Act.put, List.setIfInBounds_toArray, List.set_cons_succ, List.set_cons_zero]
  refine wpAnyB_one (i := 6) (by kernel_rfl) (by kernel_rfl) rfl (fun K hK => ?_)
  go_simp
  have BA : Below W.heap.size W ((W.alloc (.cells #[.bool false, .slice none 0 0, .slice none 0 0] 48)).drew) := ((Below.refl W.heap.size W).alloc (Nat.le_refl _) _).drew
  have nw : ((W.alloc (.cells #[.bool false, .slice none 0 0, .slice none 0 0] 48)).drew).cell? ⟨W.heap.size, 0, none⟩ = some (.bool false) ∧ ((W.alloc (.cells #[.bool false, .slice none 0 0, .slice none 0 0] 48)).drew).cell? ⟨W.heap.size, 1, none⟩ = some (.slice none 0 0) ∧ ((W.alloc (.cells #[.bool false, .slice none 0 0, .slice none 0 0] 48)).drew).cell? ⟨W.heap.size, 2, none⟩ = some (.slice none 0 0) := ⟨by simp [go_sem], by simp [go_sem], by simp [go_sem]⟩
  refine hK.out _ _ ⟨keepC BA CV.out.1, rangeT_keep RT.out BA, BA⟩ (fun hHeld => ?_)
  clear hK K
  have hs1 : ((W.alloc (.cells #[.bool false, .slice none 0 0, .slice none 0 0] 48)).drew).heap.size = W.heap.size + 1 := by simp
  generalize (W.alloc (.cells #[.bool false, .slice none 0 0, .slice none 0 0] 48)).drew = W1 at *
  refine wpAnyB_bar (o := { dst := some 93, op := .call { callee := .builtin .append, args := #[.tmp 89, .tmp 92], argTypes := #[46, 46] }, type := _, pos := _, after := _, guard := none }) (by kernel_rfl) rfl (fun K hK => ?_)
  refine wp_append_it (.tmp 89) (.tmp 92) rfl 0 (.slice va m vc) m (itC ts ps) rfl (row_kept PS.out.2.1 fun j _ hj => BA.block j hj) W.heap.size 1 (.bool false) (.slice none 0 0) (.slice none 0 0) rfl nw ⟨rfl, rfl, rfl⟩ (by have := HP.out.1; omega) (Nat.zero_le _) ?_
  intro v' W2 ho hg hv
  refine hK.out _ _ ?_
  clear hK K
  simp only [Act.put, List.setIfInBounds_toArray, List.set_cons_succ, List.set_cons_zero]
  obtain ⟨g2, cap2, rfl, hc2⟩ : ∃ g2 cap2, v' = .slice (some ⟨g2, 0, none⟩) (m + 1) cap2 ∧ m + 1 ≤ cap2 := by
    rcases ho.2 with ⟨_, h0⟩ | ⟨g2, cap2, _, x, _, _, y, _⟩
    · cases h0
    · exact ⟨g2, cap2, x, y⟩
  have hos : W2.os = W.os ∧ W2.tape = W.tape ∧ W2.output = W.output := ⟨hg.os.trans BA.os, hg.tape.trans BA.tape, hg.output.trans BA.output⟩
  have hbl : ∀ j, j < W.heap.size → (Value.slice va m vc).ownBlock ≠ some j → W2.heap[j]? = W.heap[j]? := fun j hj hn => (hg.block j (by omega) fun x => hn x.symm).trans (BA.block j hj)
  have hv2 : (Value.slice va m vc).ownBlock = some g2 ∨ W.heap.size ≤ g2 := by
    rcases hv with x | x
    · exact .inl x.symm
    · have : g2 = W1.heap.size := Option.some.inj x
      exact .inr (by omega)
  have hz2 : W.heap.size ≤ W2.heap.size := Nat.le_trans BA.size hg.size
  have gne : g ≠ g2 := by
    rcases hv2 with x | x
    · exact (PS.out.2.2 _ x).2
    · have := CV.out.2.2.1; omega
  have cvW : W2.cell? ⟨g, k * 2 + 1, none⟩ = some (.slice va m vc) := by
    rw [World.cell?_of_block (a := ⟨g, k * 2 + 1, none⟩) (hbl g CV.out.2.2.1 fun x => (PS.out.2.2 _ x).2 rfl)]; exact CV.out.1
  have fvW : W2.frozen? ⟨g, k * 2 + 1, none⟩ = false := by
    have e := hbl g CV.out.2.2.1 fun x => (PS.out.2.2 _ x).2 rfl
    have := CV.out.2.1
    simp only [World.frozen?, e] at this ⊢
    exact this
  have th : W2.there g2 (m * 3) 3 := fun j hj => by
    have c := World.ownsRow.cellAt ho (m * 3 + j) (by omega)
    refine ⟨?_, World.ownsRow.frozenAt ho _⟩
    rw [c, List.getElem?_append_right (by have := PS.out.2.1.1; omega), show m * 3 + j - (itC ts ps).length = j by have := PS.out.2.1.1; omega]
    have : j = 0 ∨ j = 1 ∨ j = 2 := by omega
    rcases this with rfl | rfl | rfl <;> rfl
  have DN : Hid (∀ W4 : World, W4.heap.size = W2.heap.size → (∀ j, j ≠ g → j ≠ g2 → W4.heap[j]? = W2.heap[j]?) → W4.heap[g2]? = (W2.setCells g2 (m * 3) [.bool t.l, .slice da dn dc, .slice qa qn qc]).heap[g2]? → W4.heap[g]? = (W2.setCell ⟨g, k * 2 + 1, none⟩ (.slice (some ⟨g2, 0, none⟩) (m + 1) cap2)).heap[g]? → (W4.os = W2.os ∧ W4.tape = W2.tape ∧ W4.output = W2.output) → Dm w0 W4 ∧ Stk (w0.heap.size + 3) W4 (.slice (some ⟨g, 0, none⟩) (k + 1) cap) ((e, ts ++ [t], .slice (some ⟨g2, 0, none⟩) (m + 1) cap2) :: L) W4.heap.size) := fun W4 q1 q2 q3 q4 q5 => by
    have r := item_done (ps := ps) (W2 := W2) (W4 := W4) (g2 := g2) (cap2 := cap2) HK.out DM.out SK.out OT.out (by rw [HM.out]; exact PS.out.2.1) hz2 hbl hos (by rw [HM.out]; exact ho) hv2 PS.out.2.2 q1 q2 (by rw [HM.out]; exact q3) (by rw [HM.out]; exact q4) q5
    rw [HM.out] at r
    exact r
  have GO : Hid (∀ W4 : World, Dm w0 W4 ∧ Stk (w0.heap.size + 3) W4 (.slice (some ⟨g, 0, none⟩) (k + 1) cap) ((e, ts ++ [t], .slice (some ⟨g2, 0, none⟩) (m + 1) cap2) :: L) W4.heap.size → ∀ a inn, FrD w0 (.slice ba bn bc) (.slice (some ⟨g, 0, none⟩) (k + 1) cap) inn (.int .i64 (p : Int)) qv ev a → ∃ m, m < n ∧ JD A (.slice ba bn bc) w0 R m 4 a W4) := fun W4 h a inn hf => by
    have hw := HW.out
    have hk := HK.out
    have hm := HM.out
    exact ⟨_, HN.out, _, inn, ev, qv, _, p, e, ts ++ [t], L, _, hf, h.1, h.2, hw.1, hw.2.1, hw.2.2.1, by rw [List.length_append, hm]; exact hw.2.2.2.1, by rw [hk]; exact hw.2.2.2.2.1, HR.out, by rw [hk]; exact Nat.le_refl _⟩
  clear HN HR HW DM SK OT RT CV PS HP HK HM BA nw hs1 hHeld ho hg hv hos hbl hv2 hz2
  refine wpAny_takeD (i := 8) (oi := _) (v := .pointer (some ⟨g2, m * 3, none⟩)) 94 rfl rfl (by kernel_rfl) (by kernel_rfl) (by kernel_rfl) (fun c a w h => HQ.out c a _ _ w h) (Or.inl ⟨by kernel_rfl, fun wq => (by go_simp; intro hx; omega)⟩) ?_
  simp only [Act.put, List.setIfInBounds_toArray, List.set_cons_succ, List.set_cons_zero]
  refine wpAny_takeD (i := 10) (oi := _) (v := .pointer (some ⟨g, k * 2, none⟩)) 95 rfl rfl (by kernel_rfl) (by kernel_rfl) (by kernel_rfl) (fun c a w h => HQ.out c a _ _ w h) (Or.inl ⟨by kernel_rfl, fun wq => (by go_simp)⟩) ?_
  simp only [Act.put, List.setIfInBounds_toArray, List.set_cons_succ, List.set_cons_zero]
  refine wpAny_takeD (i := 11) (oi := _) (v := .pointer (some ⟨g, k * 2 + 1, none⟩)) 96 rfl rfl (by kernel_rfl) (by kernel_rfl) (by kernel_rfl) (fun c a w h => HQ.out c a _ _ w h) (Or.inl ⟨by kernel_rfl, fun wq => (by go_simp)⟩) ?_
  simp only [Act.put, List.setIfInBounds_toArray, List.set_cons_succ, List.set_cons_zero]
  refine wpAny_ready (rs := [9, 12]) (by kernel_rfl) (by simp) ?_
  refine AllReady.cons (o := { dst := none, op := .store 48 (.tmp 94) (.tmp 90), type := _, pos := _, after := _, guard := none }) rfl (fun K hK0 => ?_) ?_
  · have hK : Hid _ := hK0
    clear hK0
    refine wp_store_mid 48 _ _ rfl g2 (m * 3) #[.bool t.l, .slice da dn dc, .slice qa qn qc] rfl rfl th size_it (by kernel_rfl) ?_
    refine hK.out _ _ ?_
    clear hK K
    have e1 := heap_other_setCells g2 [.bool t.l, .slice da dn dc, .slice qa qn qc] (m * 3) W2 gne
    have z1 := size_setCells g2 [.bool t.l, .slice da dn dc, .slice qa qn qc] (m * 3) W2
    have o1 := chg_setCells g2 [.bool t.l, .slice da dn dc, .slice qa qn qc] (m * 3) W2
    have n1 := fun j (h : j ≠ g2) => heap_other_setCells g2 [.bool t.l, .slice da dn dc, .slice qa qn qc] (m * 3) W2 h
    have c1 : (W2.setCells g2 (m * 3) [.bool t.l, .slice da dn dc, .slice qa qn qc]).cell? ⟨g, k * 2 + 1, none⟩ = some (.slice va m vc) := by
      rw [World.cell?_of_block (a := ⟨g, k * 2 + 1, none⟩) e1]; exact cvW
    have f1 : (W2.setCells g2 (m * 3) [.bool t.l, .slice da dn dc, .slice qa qn qc]).frozen? ⟨g, k * 2 + 1, none⟩ = false := by
      have := fvW
      simp only [World.frozen?, e1] at this ⊢
      exact this
    have q3 : Hid (∀ W3 : World, W3 = W2.setCells g2 (m * 3) [.bool t.l, .slice da dn dc, .slice qa qn qc] → W3.heap[g2]? = (W2.setCells g2 (m * 3) [.bool t.l, .slice da dn dc, .slice qa qn qc]).heap[g2]?) := fun W3 h => by rw [h]
    show wpAny _ _ _ _ _ _ _ (W2.setCells g2 (m * 3) [.bool t.l, .slice da dn dc, .slice qa qn qc])
    obtain ⟨W3, e3⟩ : ∃ W3, W3 = W2.setCells g2 (m * 3) [.bool t.l, .slice da dn dc, .slice qa qn qc] := ⟨_, rfl⟩
    rw [← e3] at e1 z1 o1 n1 c1 f1 ⊢
    have E3 : Hid (W3 = W2.setCells g2 (m * 3) [.bool t.l, .slice da dn dc, .slice qa qn qc]) := e3
    clear e3 q3
    refine wpAny_ready (rs := [12]) (by kernel_rfl) (by simp) ?_
    refine AllReady.cons (o := { dst := none, op := .store 46 (.tmp 96) (.tmp 93), type := _, pos := _, after := _, guard := none }) rfl (fun K hK0 => ?_) AllReady.nil
    have hK : Hid _ := hK0
    clear hK0
    go_simp
    refine hK.out _ _ ?_
    clear hK K
    refine wpAny_done (by kernel_rfl) ?_ _
    have D4 := DN.out (W3.setCell ⟨g, k * 2 + 1, none⟩ (.slice (some ⟨g2, 0, none⟩) (m + 1) cap2)) (by simpa using z1) (fun j h1 h2 => (heap_setCell_other _ _ _ _ (fun x => h1 x)).trans (n1 j h2)) ((heap_setCell_other _ _ _ _ (fun x => gne x.symm)).trans (by rw [E3.out])) (by rw [heap_set_same _ e1]) ⟨o1.os, o1.tape, o1.output⟩
    generalize W3.setCell ⟨g, k * 2 + 1, none⟩ (.slice (some ⟨g2, 0, none⟩) (m + 1) cap2) = W4 at *
    go_wp2_with fail
    go_step3
    refine GO.out W4 D4 _ (.pointer (some ⟨g, k * 2, none⟩)) ?_
    exact ⟨_, _, _, _, _, _, _, _, _, _, _, _, _, _, _, _, _, _, _, _, _, _, _, _, _, _, _, _, _, _, _, _, _, _, _, _, _, _, _, _, _, _, _, _, _, _, _, _, _, _, _, _, _, _, _, _, _, _, _, _, _, _, _, _, _, _, _, _, _, _, _, _, _, _, _, _, _, _, _, _, _, _, _, _, _, _, _, _, _, _, _, _, _, rfl⟩
  refine AllReady.cons (o := { dst := none, op := .store 46 (.tmp 96) (.tmp 93), type := _, pos := _, after := _, guard := none }) rfl (fun K hK0 => ?_) AllReady.nil
  have hK : Hid _ := hK0
  clear hK0
  go_simp
  refine hK.out _ _ ?_
  clear hK K
  have z1 : (W2.setCell ⟨g, k * 2 + 1, none⟩ (.slice (some ⟨g2, 0, none⟩) (m + 1) cap2)).heap.size = W2.heap.size := by simp
  have n1 : ∀ j, j ≠ g → (W2.setCell ⟨g, k * 2 + 1, none⟩ (.slice (some ⟨g2, 0, none⟩) (m + 1) cap2)).heap[j]? = W2.heap[j]? := fun j h => heap_setCell_other _ _ _ _ (fun x => h x)
  have o1 := ChgT.of_grown (grown_set W2 ⟨g, k * 2 + 1, none⟩ (.slice (some ⟨g2, 0, none⟩) (m + 1) cap2))
  obtain ⟨W3, e3⟩ : ∃ W3, W3 = W2.setCell ⟨g, k * 2 + 1, none⟩ (.slice (some ⟨g2, 0, none⟩) (m + 1) cap2) := ⟨_, rfl⟩
  rw [← e3] at z1 n1 o1 ⊢
  have th3 : W3.there g2 (m * 3) 3 := there_chg o1 (fun x => gne (Option.some.inj x)) (World.block_lt_of_cell? W2 _ (Option.isSome_iff_exists.1 (th 0 (by omega)).1).choose_spec) th
  have E3 : Hid (W3 = W2.setCell ⟨g, k * 2 + 1, none⟩ (.slice (some ⟨g2, 0, none⟩) (m + 1) cap2)) := e3
  clear e3
  refine wpAny_ready (rs := [9]) (by kernel_rfl) (by simp) ?_
  refine AllReady.cons (o := { dst := none, op := .store 48 (.tmp 94) (.tmp 90), type := _, pos := _, after := _, guard := none }) rfl (fun K hK0 => ?_) AllReady.nil
  have hK : Hid _ := hK0
  clear hK0
  refine wp_store_mid 48 _ _ rfl g2 (m * 3) #[.bool t.l, .slice da dn dc, .slice qa qn qc] rfl rfl th3 size_it (by kernel_rfl) ?_
  refine hK.out _ _ ?_
  clear hK K
  refine wpAny_done (by kernel_rfl) ?_ _
  have o2 := chg_setCells g2 [.bool t.l, .slice da dn dc, .slice qa qn qc] (m * 3) W3
  have D4 := DN.out (W3.setCells g2 (m * 3) [.bool t.l, .slice da dn dc, .slice qa qn qc]) ((size_setCells _ _ _ _).trans z1) (fun j h1 h2 => (heap_other_setCells _ _ _ _ h2).trans (n1 j h1)) (heap_setCells_same g2 _ _ (n1 g2 fun x => gne x.symm)) ((heap_other_setCells _ _ _ _ gne).trans (by rw [E3.out])) ⟨o2.os.trans o1.os, o2.tape.trans o1.tape, o2.output.trans o1.output⟩
  generalize hW4 : W3.setCells g2 (m * 3) [.bool t.l, .slice da dn dc, .slice qa qn qc] = W4 at *
  go_wp2_with fail
  go_step3
  refine GO.out W4 D4 _ (.pointer (some ⟨g, k * 2, none⟩)) ?_
  exact ⟨_, _, _, _, _, _, _, _, _, _, _, _, _, _, _, _, _, _, _, _, _, _, _, _, _, _, _, _, _, _, _, _, _, _, _, _, _, _, _, _, _, _, _, _, _, _, _, _, _, _, _, _, _, _, _, _, _, _, _, _, _, _, _, _, _, _, _, _, _, _, _, _, _, _, _, _, _, _, _, _, _, _, _, _, _, _, _, _, _, _, _, _, _, rfl⟩
set_option maxRecDepth 100000 in
set_option maxHeartbeats 8000000 in
theorem end_rest {A : List Int} {R : Int × Tr} {QQ : Exit → Act → World → Prop} {inn ev qv : Value} {sa ba : Option Addr} {sc bn bc p n : Nat} (w0 W : World)
    (hp : (p : Int) < (bn : Int)) (DM : Hid (Dm w0 W)) (HN : Hid (1 ≤ n)) (HR : Hid (R = (73, zT)))
    (x11 x12 x13 x14 x15 x16 x17 x18 x19 x20 x21 x22 x23 x24 x25 x26 x27 x28 x29 x30 x31 x32 x33 x34 x35 x36 x37 x38 x39 x40 x41 x42 x43 x44 x45 x46 x47 x48 x49 x50 x51 x52 x53 x54 x55 x56 x57 x58 x59 x60 x61 x62 x63 x64 x65 x66 x67 x68 x69 x70 x71 x72 x73 x74 x75 x76 x77 x78 x79 x80 x81 x82 x83 x84 x85 x86 x87 x88 x89 x90 x91 x92 x93 x94 x95 x96 x97 x98 x99 x100 x101 x102 x103 : Value) : WpLab Try.prog Try.f24 3 (jumps (fun l a w => ∃ m, m < n ∧ JD A (.slice ba bn bc) w0 R m l a w) QQ) { tmps := #[.slice ba bn bc, undef, .pointer (some ⟨w0.heap.size, 0, none⟩), .int .i64 0, .slice sa 0 sc, inn, .int .i64 (p : Int), qv, .pointer (some ⟨w0.heap.size + 1, 0, none⟩), .pointer (some ⟨w0.heap.size + 2, 0, none⟩), ev, x11, x12, x13, x14, x15, x16, x17, x18, x19, x20, x21, x22, x23, x24, x25, x26, x27, x28, x29, x30, x31, x32, x33, x34, x35, x36, x37, x38, x39, x40, x41, x42, x43, x44, x45, x46, x47, x48, x49, x50, x51, x52, x53, x54, x55, x56, x57, x58, x59, x60, x61, x62, x63, x64, x65, x66, x67, x68, x69, x70, x71, x72, x73, x74, x75, x76, x77, x78, x79, x80, x81, x82, x83, x84, x85, x86, x87, x88, x89, x90, x91, x92, x93, x94, x95, x96, x97, x98, x99, x100, x101, x102, x103], defers := [] } W := by
  refine WpLab.intro (by rfl) (by rfl) ?_
  go_wp2_with fail
  go_step3
  exact ⟨0, HN.out, 73, _, inn, _, _, HR.out, ⟨_, _, _, _, _, _, _, _, _, _, _, _, _, _, _, _, _, _, _, _, _, _, _, _, _, _, _, _, _, _, _, _, _, _, _, _, _, _, _, _, _, _, _, _, _, _, _, _, _, _, _, _, _, _, _, _, _, _, _, _, _, _, _, _, _, _, _, _, _, _, _, _, _, _, _, _, _, _, _, _, _, _, _, _, _, _, _, _, _, _, _, _, _, rfl⟩, DM.out⟩
set_option maxRecDepth 100000 in
set_option maxHeartbeats 8000000 in
theorem end_ok {R : Int × Tr} {J : Nat → Act → World → Prop} {inn ev qv d q : Value} {sa ba : Option Addr} {sc bn bc p : Nat} {t : Tr} (w0 W : World)
    (hp : ¬ (p : Int) < (bn : Int)) (DM : Hid (Dm w0 W)) (RT : Hid (W.rangeAt (w0.heap.size + 2) 0 [.bool t.l, d, q])) (OT : Hid (Ot W t (fun j => w0.heap.size + 3 ≤ j) d q)) (HR : Hid (R = (0, t)))
    (x11 x12 x13 x14 x15 x16 x17 x18 x19 x20 x21 x22 x23 x24 x25 x26 x27 x28 x29 x30 x31 x32 x33 x34 x35 x36 x37 x38 x39 x40 x41 x42 x43 x44 x45 x46 x47 x48 x49 x50 x51 x52 x53 x54 x55 x56 x57 x58 x59 x60 x61 x62 x63 x64 x65 x66 x67 x68 x69 x70 x71 x72 x73 x74 x75 x76 x77 x78 x79 x80 x81 x82 x83 x84 x85 x86 x87 x88 x89 x90 x91 x92 x93 x94 x95 x96 x97 x98 x99 x100 x101 x102 x103 : Value) : WpLab Try.prog Try.f24 3 (jumps J (bodyPost Try.prog Try.f24 (fun e w' => ∃ d q, e = .returned (.tuple #[itV R.2 d q, .int .i64 R.1]) ∧ Ot w' R.2 (fun k => w0.heap.size ≤ k) d q ∧ Below w0.heap.size w0 w'))) { tmps := #[.slice ba bn bc, undef, .pointer (some ⟨w0.heap.size, 0, none⟩), .int .i64 0, .slice sa 0 sc, inn, .int .i64 (p : Int), qv, .pointer (some ⟨w0.heap.size + 1, 0, none⟩), .pointer (some ⟨w0.heap.size + 2, 0, none⟩), ev, x11, x12, x13, x14, x15, x16, x17, x18, x19, x20, x21, x22, x23, x24, x25, x26, x27, x28, x29, x30, x31, x32, x33, x34, x35, x36, x37, x38, x39, x40, x41, x42, x43, x44, x45, x46, x47, x48, x49, x50, x51, x52, x53, x54, x55, x56, x57, x58, x59, x60, x61, x62, x63, x64, x65, x66, x67, x68, x69, x70, x71, x72, x73, x74, x75, x76, x77, x78, x79, x80, x81, x82, x83, x84, x85, x86, x87, x88, x89, x90, x91, x92, x93, x94, x95, x96, x97, x98, x99, x100, x101, x102, x103], defers := [] } W := by
  refine WpLab.intro (by rfl) (by rfl) ?_
  have hR := HR.out
  subst hR
  clear HR
  obtain ⟨da, dn, dc, qa, qn, qc, rfl, rfl⟩ := (Ot.it _ OT.out).slices
  have ST : Hid (Below w0.heap.size w0 (W.setCells w0.heap.size 0 [.bool t.l, .slice da dn dc, .slice qa qn qc]) ∧ (W.setCells w0.heap.size 0 [.bool t.l, .slice da dn dc, .slice qa qn qc]).rangeAt w0.heap.size 0 [.bool t.l, .slice da dn dc, .slice qa qn qc] ∧ Ot (W.setCells w0.heap.size 0 [.bool t.l, .slice da dn dc, .slice qa qn qc]) t (fun j => w0.heap.size ≤ j) (.slice da dn dc) (.slice qa qn qc)) := by
    have c := chg_setCells w0.heap.size [.bool t.l, .slice da dn dc, .slice qa qn qc] 0 W
    have ds := DM.out.size
    refine ⟨DM.out.below.trans (c.below (by omega) fun k hk => by omega), World.rangeAt_setCells_same _ _ _ _ DM.out.fr, Ot.conv _ (fun k hk hS => ⟨by omega, c.block k hk (by omega)⟩) OT.out⟩
  go_wp2_with (first | (refine wpList_load_mid rfl _ _ rfl (w0.heap.size + 2) 0 rfl _ _ RT.out Try.underlying48 rfl size_it ?_) | ((refine wpList_store_mid rfl _ _ _ rfl w0.heap.size 0 #[.bool t.l, .slice da dn dc, .slice qa qn qc] rfl rfl DM.out.fr size_it (by kernel_rfl) ?_); (refine wpList_worldE (fun V => Below w0.heap.size w0 V ∧ V.rangeAt w0.heap.size 0 [.bool t.l, .slice da dn dc, .slice qa qn qc] ∧ Ot V t (fun j => w0.heap.size ≤ j) (.slice da dn dc) (.slice qa qn qc)) ST.out ?_); rintro V ⟨BV, RV, OV⟩))
  have c0 : V.cell? ⟨w0.heap.size, 0, none⟩ = some (.bool t.l) := RV 0 _ rfl
  have c1 : V.cell? ⟨w0.heap.size, 1, none⟩ = some (.slice da dn dc) := RV 1 _ rfl
  have c2 : V.cell? ⟨w0.heap.size, 2, none⟩ = some (.slice qa qn qc) := RV 2 _ rfl
  simp [bodyPost, results, Try.results24, go_sem, c0, c1, c2]
  exact ⟨_, _, rfl, OV, BV⟩
/-- At 'ended'. -/
theorem dec_end {A : List Int} {R : Int × Tr} {inn ev qv sv d q : Value} {ba : Option Addr} {bn bc p n : Nat} {t : Tr} {L : List LvT} {M : Nat} {a : Act} (w0 W : World) (hbn : bn = A.length) (hA : A.length ≤ 16777216)
    (hf : FrD w0 (.slice ba bn bc) sv inn (.int .i64 (p : Int)) qv ev a) (DM : Dm w0 W) (SK : Stk (w0.heap.size + 3) W sv L M) (RT : W.rangeAt (w0.heap.size + 2) 0 [.bool t.l, d, q]) (OT : Ot W t (fun j => M ≤ j ∧ sv.ownBlock ≠ some j) d q) (hwf : WfD A p L) (hcn : CnS p L) (hL : L.length ≤ 1024) (hR : R = cntD A L p t) (hn : 4 * (A.length - p) + 2 * L.length + 3 ≤ n) :
    WpLab Try.prog Try.f24 3 (jumps (fun l a w => ∃ m, m < n ∧ JD A (.slice ba bn bc) w0 R m l a w) (bodyPost Try.prog Try.f24 (fun e w' => ∃ d q, e = .returned (.tuple #[itV R.2 d q, .int .i64 R.1]) ∧ Ot w' R.2 (fun k => w0.heap.size ≤ k) d q ∧ Below w0.heap.size w0 w'))) a W := by
  obtain ⟨x11, x12, x13, x14, x15, x16, x17, x18, x19, x20, x21, x22, x23, x24, x25, x26, x27, x28, x29, x30, x31, x32, x33, x34, x35, x36, x37, x38, x39, x40, x41, x42, x43, x44, x45, x46, x47, x48, x49, x50, x51, x52, x53, x54, x55, x56, x57, x58, x59, x60, x61, x62, x63, x64, x65, x66, x67, x68, x69, x70, x71, x72, x73, x74, x75, x76, x77, x78, x79, x80, x81, x82, x83, x84, x85, x86, x87, x88, x89, x90, x91, x92, x93, x94, x95, x96, x97, x98, x99, x100, x101, x102, x103, rfl⟩ := hf
  cases L with
  | nil =>
    obtain ⟨sa, sc, rfl⟩ : ∃ sa sc, sv = .slice sa 0 sc := by
      rcases SK.1.2 with ⟨x, _⟩ | ⟨g, cap, _, x, _⟩
      · exact ⟨_, _, x⟩
      · exact ⟨_, _, x⟩
    rw [cntD] at hR
    by_cases k : p < A.length
    · rw [if_pos k] at hR
      exact end_rest w0 W (by omega) DM (by show 1 ≤ n; omega) hR x11 x12 x13 x14 x15 x16 x17 x18 x19 x20 x21 x22 x23 x24 x25 x26 x27 x28 x29 x30 x31 x32 x33 x34 x35 x36 x37 x38 x39 x40 x41 x42 x43 x44 x45 x46 x47 x48 x49 x50 x51 x52 x53 x54 x55 x56 x57 x58 x59 x60 x61 x62 x63 x64 x65 x66 x67 x68 x69 x70 x71 x72 x73 x74 x75 x76 x77 x78 x79 x80 x81 x82 x83 x84 x85 x86 x87 x88 x89 x90 x91 x92 x93 x94 x95 x96 x97 x98 x99 x100 x101 x102 x103
    · rw [if_neg k] at hR
      have hb := SK.2.1.base
      exact end_ok w0 W (by omega) DM RT (Ot.conv _ (fun j _ hS => ⟨by have := hS.1; omega, rfl⟩) OT) hR x11 x12 x13 x14 x15 x16 x17 x18 x19 x20 x21 x22 x23 x24 x25 x26 x27 x28 x29 x30 x31 x32 x33 x34 x35 x36 x37 x38 x39 x40 x41 x42 x43 x44 x45 x46 x47 x48 x49 x50 x51 x52 x53 x54 x55 x56 x57 x58 x59 x60 x61 x62 x63 x64 x65 x66 x67 x68 x69 x70 x71 x72 x73 x74 x75 x76 x77 x78 x79 x80 x81 x82 x83 x84 x85 x86 x87 x88 x89 x90 x91 x92 x93 x94 x95 x96 x97 x98 x99 x100 x101 x102 x103
  | cons x L =>
    obtain ⟨e, ts, v⟩ := x
    obtain ⟨g, cap, rfl, _⟩ := SK.top
    rw [cnt_ins] at hR
    rw [List.length_cons] at hn hL
    exact end_in w0 W DM SK RT OT (fun _ _ d _ _ h => by cases d <;> exact h) (by show _ < n; omega) hR ⟨hwf.1, hwf.2, fun x hx => hcn x (List.mem_cons_of_mem _ hx), hcn _ List.mem_cons_self, hL, hA⟩ x11 x12 x13 x14 x15 x16 x17 x18 x19 x20 x21 x22 x23 x24 x25 x26 x27 x28 x29 x30 x31 x32 x33 x34 x35 x36 x37 x38 x39 x40 x41 x42 x43 x44 x45 x46 x47 x48 x49 x50 x51 x52 x53 x54 x55 x56 x57 x58 x59 x60 x61 x62 x63 x64 x65 x66 x67 x68 x69 x70 x71 x72 x73 x74 x75 x76 x77 x78 x79 x80 x81 x82 x83 x84 x85 x86 x87 x88 x89 x90 x91 x92 x93 x94 x95 x96 x97 x98 x99 x100 x101 x102 x103
end Go.Proofs.Ytaefmdofchjofaa
