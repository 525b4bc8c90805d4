import Derived.Test.YtaefmdofchjofaaRwA
import Derived.Test.YtaefmdofchjofaaRdE
/- Layer 7: the document's item: a list. -/
namespace Go.Proofs.Ytaefmdofchjofaa
open Go.RowKit Go.Sort
/-- Items that were read, then what is left. -/
def appR (us : List Tr) (y : Int × List Tr) : Int × List Tr := if y.1 = 0 then (0, us ++ y.2) else (y.1, [])
/-- Where an item ends; 0 beside an error. -/
def endV (x : Int × Tr) (t : Nat) : Int := if x.1 = 0 then (t : Int) else 0
theorem own_some7 {W : World} {B : Nat} {e : TypeId} {size : Nat} {v : Value} {n : Nat} {xs : List Value} (h : W.ownsRow B e size v (n + 1) xs) : ∃ g cap, v = .slice (some ⟨g, 0, none⟩) (n + 1) cap := by
  rcases h.2 with ⟨_, x⟩ | ⟨g, cap, _, x, _⟩
  · cases x
  · exact ⟨g, cap, x⟩
theorem frozen_grown {W W' : World} {row : Option Nat} {b i : Nat} (hg : W.grownBy W' row) (hb : b < W.heap.size) (hn : some b = row → False) (h : W.frozen? ⟨b, i, none⟩ = false) : W'.frozen? ⟨b, i, none⟩ = false := by
  have e := hg.block b hb hn
  simp only [World.frozen?, e] at h ⊢
  exact h
theorem app_end {A : List Int} {us : List Tr} {k p t : Nat} (h : t ≤ p) : appR us (dS k (slD A p t)) = (0, us) := by
  have : dS k (slD A p t) = (0, []) := dS_nil _ (by unfold slD; rw [List.length_take]; omega)
  rw [this, appR]; simp
theorem app_bad {A : List Int} {us : List Tr} {k p t : Nat} (h : p < t) (ht : t ≤ A.length) (e : (dT k (slD A p t)).1 ≠ 0) : appR us (dS k (slD A p t)) = ((dT k (slD A p t)).1, []) := by
  have hl := slD_len (p := p) ht
  rw [dS_cons _ (by omega), consR, if_neg e, appR, if_neg e]
theorem app_step {A : List Int} {us : List Tr} {k p t : Nat} (h : p < t) (ht : t ≤ A.length) (e : (dT k (slD A p t)).1 = 0) : appR us (dS k (slD A p t)) = appR (us ++ [(dT k (slD A p t)).2]) (dS k (slD A (p + totP (slD A p t)) t)) := by
  have hl := slD_len (p := p) ht
  rw [dS_cons _ (by omega), consR, if_pos e, slD_drop, appR, appR]
  by_cases z : (dS k (slD A (p + totP (slD A p t)) t)).1 = 0
  · rw [if_pos z, if_pos z]; simp
  · rw [if_neg z, if_neg z, if_neg z]
theorem dT_zero {k : Nat} {A : List Int} (h : (dT k A).1 ≠ 0) : (dT k A).2 = zT := by
  by_cases e : (hdP A).2.2.2 = 0
  · by_cases l : (hdP A).1 = false
    · rw [dT_text k e l] at h; exact absurd rfl h
    · have l2 : (hdP A).1 = true := by simpa using l
      by_cases d : 1024 ≤ k
      · rw [dT_deep e l2 d]
      · rw [dT_list e l2 d] at h ⊢
        unfold listR at h ⊢
        by_cases z : (dS (k + 1) (innP A)).1 = 0
        · rw [if_pos z] at h; exact absurd rfl h
        · rw [if_neg z]
  · rw [dT_err k e]
theorem dS_zero {k : Nat} {A : List Int} (h : (dS k A).1 ≠ 0) : (dS k A).2 = [] := by
  by_cases z : A.length = 0
  · rw [dS_nil k z]
  · rw [dS_cons k z] at h ⊢
    unfold consR at h ⊢
    by_cases z1 : (dT k A).1 = 0
    · rw [if_pos z1] at h ⊢
      by_cases z2 : (dS k (A.drop (totP A))).1 = 0
      · rw [if_pos z2] at h; exact absurd rfl h
      · rw [if_neg z2]
    · rw [if_neg z1]
/-- What the loop of item holds. -/
structure Li (w W : World) (hb : Nat) (s t : Nat) (v : Value) (us : List Tr) (ps : List (Value × Value)) : Prop where
  below : Below w.heap.size w W
  hlt : w.heap.size < hb
  res : W.there w.heap.size 0 3
  hd : Hb W hb true (s : Int) (t : Int)
  it : W.rangeAt (hb + 1) 0 [.bool true, .slice none 0 0, v]
  itw : W.there (hb + 1) 0 3
  oe : Oe (hb + 2) W v us ps
theorem there_lt {W : World} {b o n : Nat} (h : W.there b o n) (hn : 0 < n) : b < W.heap.size := World.block_lt_of_cell? W _ (Option.isSome_iff_exists.1 (h 0 hn).1).choose_spec
theorem there_keep {W W' : World} {b o n : Nat} (h : W.there b o n) (hb : Below W.heap.size W W') (hn : 0 < n) : W'.there b o n := there_chg (S := fun _ => False) (ChgT.of_below hb) (fun x => x) (there_lt h hn) h
theorem Li.keep {w W W' : World} {hb s t : Nat} {v : Value} {us : List Tr} {ps : List (Value × Value)} (h : Li w W hb s t v us ps) (k : Below W.heap.size W W') : Li w W' hb s t v us ps :=
  ⟨h.below.trans (k.mono h.below.size), h.hlt, there_keep h.res k (by omega), h.hd.keep k, rangeT_keep h.it k, there_keep h.itw k (by omega), h.oe.keep k⟩
/-- One more item: 'it.Items = append(it.Items, x)'. -/
theorem Li.put {w W : World} {hb s t : Nat} {v : Value} {us : List Tr} {ps : List (Value × Value)} (h : Li w W hb s t v us ps) (vs : List Value) : Li w (W.setCells w.heap.size 0 vs) hb s t v us ps := by
  have c := chg_setCells w.heap.size vs 0 W
  have hs := h.hlt
  have hl := h.hd.lt
  have il := there_lt h.itw (by omega)
  obtain ⟨e1, e2, e3, e4⟩ := h.oe
  exact ⟨h.below.trans (c.below h.below.size fun k hk => by omega), hs, World.there_setCells h.res _ _ _, ⟨c.cell (by omega) h.hd.1, c.cell (by omega) h.hd.2.1, c.cell (by omega) h.hd.2.2⟩, World.rangeAt_setCells_apart h.it _ _ _ (.inl (by omega)), World.there_setCells h.itw _ _ _, e1, row_kept e2 fun k x hk => c.block k hk (by have := e3 k x; omega), e3, Ots.of fun i hi => Ot.conv _ (fun k hk hS => ⟨hS, c.block k hk (by have := hS.1; omega)⟩) (e4.at i hi)⟩
theorem there_setCells7 {W : World} {b b' o n i : Nat} {v : Value} (h : W.there b' o n) : (W.setCell ⟨b, i, none⟩ v).there b' o n := World.there_setCells h b i [v]
/-- One more item: 'it.Items = append(it.Items, x)'. -/
theorem Li.step {w W W1 W2 : World} {hb s t : Nat} {v v' d q : Value} {us : List Tr} {u : Tr} {ps : List (Value × Value)} (h : Li w W hb s t v us ps) (k1 : Below W.heap.size W W1) (ou : Ot W1 u (fun j => hb + 2 ≤ j ∧ v.ownBlock ≠ some j) d q)
    (ho : W2.ownsRow (hb + 2) 48 3 v' (us.length + 1) (itC us ps ++ [.bool u.l, d, q])) (hg : W1.grownBy W2 v.ownBlock) (hv : v'.ownBlock = v.ownBlock ∨ v'.ownBlock = some W1.heap.size) :
    Li w (W2.setCell ⟨hb + 1, 2, none⟩ v') hb s t v' (us ++ [u]) (ps ++ [(d, q)]) := by
  have h1 := h.keep k1
  have lb : hb + 1 < W1.heap.size := there_lt h1.itw (by omega)
  have vb : ∀ k, v.ownBlock = some k → hb + 2 ≤ k := h.oe.2.2.1
  have bl : ∀ j, j < hb + 2 → j < W1.heap.size → W2.heap[j]? = W1.heap[j]? := fun j hj hj2 => hg.block j hj2 fun x => by have := vb j x.symm; omega
  have oe2 := Oe.step h1.oe ou (by omega) ho hg hv
  have c2 : ChgT (fun k => k = hb + 1) W2 (W2.setCell ⟨hb + 1, 2, none⟩ v') := chg_setCells (hb + 1) [v'] 2 W2
  have c1 : ChgT (fun k => hb + 2 ≤ k) W1 W2 := ⟨hg.os, hg.tape, hg.output, hg.size, fun j hj hn => bl j (by omega) hj⟩
  have hs := h.hlt
  have hdl := h1.hd.lt
  have it2 : W2.there (hb + 1) 0 3 := there_chg c1 (by omega) lb h1.itw
  refine ⟨h1.below.trans ((c1.below h1.below.size fun k hk => by omega).trans (c2.below (by have := h1.below.size; have := hg.size; omega) fun k hk => by omega)), hs, there_chg c2 (by omega) (by have := hg.size; omega) (there_chg c1 (by omega) (by omega) h1.res), ?_, ?_, there_setCells7 it2, ?_⟩
  · exact ⟨c2.cell (by omega) (c1.cell (by omega) h1.hd.1), c2.cell (by omega) (c1.cell (by omega) h1.hd.2.1), c2.cell (by omega) (c1.cell (by omega) h1.hd.2.2)⟩
  · have r0 : W2.cell? ⟨hb + 1, 0, none⟩ = some (.bool true) := c1.cell (by omega) (h1.it 0 _ rfl)
    have r1 : W2.cell? ⟨hb + 1, 1, none⟩ = some (.slice none 0 0) := c1.cell (by omega) (h1.it 1 _ rfl)
    have r2 : W2.cell? ⟨hb + 1, 2, none⟩ = some v := c1.cell (by omega) (h1.it 2 _ rfl)
    intro j x hx
    rw [Nat.zero_add]
    match j, hx with
    | 0, hx => simp at hx; subst hx; simp [go_sem, r0]
    | 1, hx => simp at hx; subst hx; simp [go_sem, r1]
    | 2, hx => simp at hx; subst hx; simp [go_sem, r2]
    | j + 3, hx => simp at hx
  · obtain ⟨e1, e2, e3, e4⟩ := oe2
    refine ⟨e1, row_kept e2 fun k x hk => c2.block k hk (by have := e3 k x; omega), e3, Ots.of fun i hi => Ot.conv _ (fun k hk hS => ⟨hS, c2.block k hk (by have := hS.1; omega)⟩) (e4.at i hi)⟩
set_option maxRecDepth 100000 in
set_option maxHeartbeats 8000000 in
theorem item_list {A : List Int} {a : Option Addr} {m c p q k s t : Nat} {Z : Int × List Tr} (hk : (k : Int) < 1024) (ht : t ≤ A.length) (hl : A.length ≤ 16777216) (hst : s ≤ t) (w : World) (hZ : Z = dS (k + 1) (slD A s t)) (FH : Hid (∀ w1, Below w.heap.size w w1 → Calls Try.prog 64 #[.slice a m c, .int .i64 (p : Int), .int .i64 (q : Int)] w1 fun e w' => e = .returned (.tuple #[.agg #[.bool true, .int .i64 (s : Int), .int .i64 (t : Int)], .int .i64 0]) ∧ Below w1.heap.size w1 w'))
    (IT : Hid (∀ p' V, s ≤ p' → p' < t → Below w.heap.size w V → Calls Try.prog 46 #[.slice a m c, .int .i64 (p' : Int), .int .i64 (t : Int), .int .i64 ((k : Int) + 1)] V fun e w' => ∃ d x, e = .returned (.tuple #[itV (dT (k + 1) (slD A p' t)).2 d x, .int .i64 (endV (dT (k + 1) (slD A p' t)) (p' + totP (slD A p' t))), .int .i64 (dT (k + 1) (slD A p' t)).1]) ∧ Ot w' (dT (k + 1) (slD A p' t)).2 (fun j => V.heap.size ≤ j) d x ∧ Below V.heap.size V w')) :
    Calls Try.prog 46 #[.slice a m c, .int .i64 (p : Int), .int .i64 (q : Int), .int .i64 (k : Int)] w fun e w' => ∃ d x, e = .returned (.tuple #[itV (listR Z).2 d x, .int .i64 (endV (listR Z) t), .int .i64 (listR Z).1]) ∧ Ot w' (listR Z).2 (fun j => w.heap.size ≤ j) d x ∧ Below w.heap.size w w' := by
  have HT : Hid (t ≤ A.length ∧ A.length ≤ 16777216 ∧ s ≤ t) := ⟨ht, hl, hst⟩
  have HZ : Hid (appR [] (dS (k + 1) (slD A s t)) = Z) := by
    show _ = Z
    rw [hZ, appR]
    by_cases z : (dS (k + 1) (slD A s t)).1 = 0
    · rw [if_pos z]; exact Prod.ext z.symm rfl
    · rw [if_neg z]
      exact Prod.ext rfl (dS_zero z).symm
  clear ht hl hst hZ
  have ht2 : (t : Int) ≤ 16777216 := by have := HT.out; omega
  go_enter Try.func46, Try.ntmps46
  go_wp2_with (go_at_call 64; (refine (FH.out _ ((Below.refl _ _).alloc (Nat.le_refl _) _)).mono ?_); rintro e w1 ⟨rfl, B⟩; (have r0 : w1.cell? ⟨w.heap.size, 0, none⟩ = some (.bool false) := keepC B (by simp [go_sem])); (have r1 : w1.cell? ⟨w.heap.size, 1, none⟩ = some (.slice none 0 0) := keepC B (by simp [go_sem])); (have r2 : w1.cell? ⟨w.heap.size, 2, none⟩ = some (.slice none 0 0) := keepC B (by simp [go_sem])); (have f0 : w1.frozen? ⟨w.heap.size, 0, none⟩ = false := by rw [B.frozen (p := ⟨w.heap.size, 0, none⟩) (by simp)]; simp [go_sem]); (have f1 : w1.frozen? ⟨w.heap.size, 1, none⟩ = false := by rw [B.frozen (p := ⟨w.heap.size, 1, none⟩) (by simp)]; simp [go_sem]); (have f2 : w1.frozen? ⟨w.heap.size, 2, none⟩ = false := by rw [B.frozen (p := ⟨w.heap.size, 2, none⟩) (by simp)]; simp [go_sem]); (have hw1 : w.heap.size < w1.heap.size := Nat.lt_of_lt_of_le (by simp) B.size); (have hne : w1.heap.size ≠ w.heap.size := by omega); (have B2 : Below w.heap.size w w1 := ((Below.refl _ _).alloc (Nat.le_refl _) _).trans (B.mono (by simp))))
  refine wp_world (fun V => Li w V w1.heap.size s t (.slice none 0 0) [] []) ?_ ?_
  · refine ⟨(B2.alloc B2.size _).alloc (by have := B2.size; simp; omega) _, hw1, fun j hj => ?_, ⟨by simp [go_sem], by simp [go_sem], by simp [go_sem]⟩, fun j x hx => ?_, fun j hj => ?_, Oe.nil _ _⟩
    · have : j = 0 ∨ j = 1 ∨ j = 2 := by omega
      rcases this with rfl | rfl | rfl <;> simp [go_sem, r0, r1, r2, f0, f1, f2, hw1, Nat.lt_succ_of_lt hw1]
    · rw [Nat.zero_add]
      match j, hx with
      | 0, hx => simp at hx; subst hx; simp [go_sem]
      | 1, hx => simp at hx; subst hx; simp [go_sem]
      | 2, hx => simp at hx; subst hx; simp [go_sem]
      | j + 3, hx => simp at hx
    · have : j = 0 ∨ j = 1 ∨ j = 2 := by omega
      rcases this with rfl | rfl | rfl <;> simp [go_sem]
  intro V0 LI0
  generalize w1.heap.size = hb at *
  clear r0 r1 r2 f0 f1 f2 B B2 w1 hne
  go_loopg [14] (t - s) (fun kk pv wr => ∃ (p' : Nat) (us : List Tr) (ps : List (Value × Value)) (v : Value), kk = t - p' ∧ s ≤ p' ∧ p' ≤ t ∧ pv = .int .i64 (p' : Int) ∧ Li w wr hb s t v us ps ∧ us.length ≤ p' ∧ appR us (dS (k + 1) (slD A p' t)) = Z)
  case atStart => exact ⟨s, [], [], _, rfl, Nat.le_refl _, HT.out.2.2, rfl, LI0, Nat.zero_le _, HZ.out⟩
  case round =>
    obtain ⟨p', us, ps, v, hk', hs', ht', rfl, LI, hu, hz⟩ := hrel
    have ST : Hid (gk = t - p' ∧ s ≤ p' ∧ p' ≤ t ∧ us.length ≤ p' ∧ appR us (dS (k + 1) (slD A p' t)) = Z) := ⟨hk', hs', ht', hu, hz⟩
    clear hk' hs' ht' hu hz LI0
    have HLI : Hid (Li w wr hb s t v us ps) := LI
    have h2 : wr.cell? ⟨hb, 2, none⟩ = some (.int .i64 (t : Int)) := LI.hd.2.2
    have h1 : wr.cell? ⟨hb, 1, none⟩ = some (.int .i64 (s : Int)) := LI.hd.2.1
    clear LI
    by_cases kp : p' < t
    · obtain ⟨y, ey⟩ : ∃ y, y = dT (k + 1) (slD A p' t) := ⟨_, rfl⟩
      have kp1 : (p' : Int) < (t : Int) := by omega
      have ITP := IT.out p' wr ST.out.2.1 kp HLI.out.below
      rw [← ey] at ITP
      have YF : Hid (y.1 ≠ 0 → y.2 = zT ∧ Z = (y.1, [])) := fun ke => ⟨by rw [ey]; exact dT_zero (by rw [← ey]; exact ke), by rw [← ST.out.2.2.2.2, app_bad kp HT.out.1 (by rw [← ey]; exact ke), ← ey]⟩
      have YG : Hid (y.1 = 0 → p' + totP (slD A p' t) ≤ t ∧ 1 ≤ totP (slD A p' t) ∧ appR (us ++ [y.2]) (dS (k + 1) (slD A (p' + totP (slD A p' t)) t)) = Z) := fun ke => by
        have kd : (dT (k + 1) (slD A p' t)).1 = 0 := by rw [← ey]; exact ke
        have tf := totP_fits (dT_ok kd)
        have sl := slD_len (p := p') HT.out.1
        exact ⟨by omega, tf.2, by rw [ey, ← app_step kp HT.out.1 kd]; exact ST.out.2.2.2.2⟩
      clear ey
      generalize totP (slD A p' t) = tp at *
      obtain ⟨e1, u⟩ := y
      have IC : Hid (Calls Try.prog 46 #[.slice a m c, .int .i64 (p' : Int), .int .i64 (t : Int), .int .i64 ((k : Int) + 1)] wr fun e w' => ∃ d x, e = .returned (.tuple #[itV u d x, .int .i64 (endV (e1, u) (p' + tp)), .int .i64 e1]) ∧ Ot w' u (fun j => wr.heap.size ≤ j) d x ∧ Below wr.heap.size wr w') := ITP
      clear ITP
      obtain ⟨pn, hpn⟩ : ∃ pn : Nat, endV (e1, u) (p' + tp) = (pn : Int) ∧ (e1 = 0 → p' + tp = pn) := by
        unfold endV
        by_cases z : e1 = 0
        · exact ⟨p' + tp, by rw [if_pos z], fun _ => rfl⟩
        · exact ⟨0, by rw [if_neg z]; rfl, fun h => absurd h z⟩
      rw [hpn.1] at IC
      have HPN : Hid (e1 = 0 → p' + tp = pn) := hpn.2
      clear hpn
      refine wp_seq_k fun K h => ?_
      have H5 : Hid _ := h
      clear h
      go_wp2_with fail
      refine H5.out _ _ ?_
      clear H5 K
      refine wp_block ?_
      refine wp_seq_k fun K h => ?_
      have H : Hid _ := h
      clear h
      go_wp2_with (go_at_call 46; (refine IC.out.mono ?_); rintro e U ⟨d, x, rfl, OU, BU⟩; obtain ⟨da, dn, dc, qa, qn, qc, rfl, rfl⟩ := (Ot.it _ OU).slices; unfold itV)
      refine H.out _ _ ?_
      clear H K IC
      have LU := HLI.out.keep BU
      refine wp_world (fun V => Li w V hb s t v us ps ∧ Bx V U.heap.size u.l (.slice da dn dc) (.slice qa qn qc) ∧ Ot V u (fun j => wr.heap.size ≤ j) (.slice da dn dc) (.slice qa qn qc)) ⟨LU.keep ((Below.refl _ _).alloc (Nat.le_refl _) _), Bx.new, OU.keep ((Below.refl _ _).alloc (Nat.le_refl _) _)⟩ ?_
      rintro V ⟨LV, BXV, OV⟩
      have XB : Hid (wr.heap.size ≤ U.heap.size) := BU.size
      generalize U.heap.size = xb at *
      clear LU OU BU U
      have HV : Hid (Li w V hb s t v us ps ∧ Ot V u (fun j => wr.heap.size ≤ j) (.slice da dn dc) (.slice qa qn qc)) := ⟨LV, OV⟩
      clear OV
      by_cases ke : e1 = 0
      · subst ke
        have hpn := HPN.out rfl
        obtain ⟨g1, g2, g3⟩ := YG.out rfl
        have GG : Hid (p' + tp ≤ t ∧ 1 ≤ tp ∧ appR (us ++ [u]) (dS (k + 1) (slD A (p' + tp) t)) = Z ∧ p' + tp = pn) := ⟨g1, g2, g3, hpn⟩
        clear g1 g2 g3 hpn YG YF
        obtain ⟨va, vc, rfl⟩ : ∃ va vc, v = .slice va us.length vc := by
          rcases HLI.out.oe.2.1.2 with ⟨x, y⟩ | ⟨g, cap, _, x, _⟩
          · exact ⟨none, 0, by rw [x, y]⟩
          · exact ⟨_, cap, x⟩
        have cI : V.cell? ⟨hb + 1, 2, none⟩ = some (.slice va us.length vc) := LV.it 2 _ rfl
        have fI : V.frozen? ⟨hb + 1, 2, none⟩ = false := (LV.itw 2 (by omega)).2
        have lI : hb + 1 < V.heap.size := there_lt LV.itw (by omega)
        obtain ⟨x0, x1, x2⟩ := BXV
        have VB : Hid (∀ j, (Value.slice va us.length vc).ownBlock = some j → hb + 2 ≤ j ∧ j < wr.heap.size) := fun j hj => ⟨HLI.out.oe.2.2.1 j hj, (World.ownsRow.lt HLI.out.oe.2.1 j hj).2⟩
        have WB : Hid (hb + 2 ≤ wr.heap.size) := there_lt HLI.out.itw (by omega)
        clear LV
        generalize hul : us.length = ul at *
        have HUL : Hid (us.length = ul) := hul
        clear hul
        have OWN : Hid (∀ ob, (V.alloc ob).ownsRow (hb + 2) 48 3 (.slice va ul vc) ul (itC us ps)) := fun ob => by
          have := (HV.out.1.keep ((Below.refl _ _).alloc (Nat.le_refl _) ob)).oe.2.1
          rw [HUL.out] at this
          exact this
        go_wp2_with (at_builtin; (refine wpList_append_it rfl _ _ rfl (hb + 2) (.slice va ul vc) ul (itC us ps) rfl (OWN.out _) V.heap.size 1 (.bool u.l) (.slice da dn dc) (.slice qa qn qc) rfl ⟨by simp [go_sem], by simp [go_sem], by simp [go_sem]⟩ ⟨rfl, rfl, rfl⟩ (by have := ST.out; omega) (by simp; omega) ?_); intro v' W2 ho hg hv; obtain ⟨g2, cap2, rfl⟩ := own_some7 ho; (have fI2 : W2.frozen? ⟨hb + 1, 2, none⟩ = false := frozen_grown hg (by simp; omega) (fun x => by have := (VB.out _ x.symm).1; omega) (by rw [((Below.refl V.heap.size V).alloc (Nat.le_refl _) _).frozen (p := ⟨hb + 1, 2, none⟩) lI]; exact fI)); (have cI2 : W2.cell? ⟨hb + 1, 2, none⟩ = some (.slice va ul vc) := by (rw [World.cell?_of_block (a := ⟨hb + 1, 2, none⟩) (hg.block (hb + 1) (by simp; omega) (fun x => by have := (VB.out _ x.symm).1; omega))]; exact keepC ((Below.refl _ _).alloc (Nat.le_refl _) _) cI)))
        have gg := GG.out
        have L9 := HV.out.1.step ((Below.refl V.heap.size V).alloc (Nat.le_refl _) (.cells #[.bool u.l, .slice da dn dc, .slice qa qn qc] 48)) (Ot.conv _ (fun j hj hS => ⟨⟨Nat.le_trans WB.out hS, fun x => by have := (VB.out j x).2; omega⟩, ((Below.refl V.heap.size V).alloc (Nat.le_refl _) _).block j hj⟩) HV.out.2) (by rw [HUL.out]; exact ho) hg hv
        have HL9 : Hid (Li w (W2.setCell ⟨hb + 1, 2, none⟩ (.slice (some ⟨g2, 0, none⟩) (ul + 1) cap2)) hb s t (.slice (some ⟨g2, 0, none⟩) (ul + 1) cap2) (us ++ [u]) (ps ++ [(.slice da dn dc, .slice qa qn qc)])) := L9
        go_roundg (t - pn)
        case measure => have := ST.out; omega
        case rel =>
          have st := ST.out
          exact ⟨pn, us ++ [u], _, _, rfl, by omega, by omega, rfl, HL9.out, by rw [List.length_append, HUL.out]; show ul + 1 ≤ pn; omega, by rw [← gg.2.2.2]; exact gg.2.2.1⟩
      · obtain ⟨uz, zz⟩ := YF.out ke
        have b6 : (e1 == 0) = false := beq_false_of_ne ke
        have b7 : (e1 != 0) = true := bne_iff_ne.2 ke
        have RB := LV.res
        have ST2 : Hid (Below w.heap.size w (V.setCells w.heap.size 0 [.bool false, .slice none 0 0, .slice none 0 0]) ∧ (V.setCells w.heap.size 0 [.bool false, .slice none 0 0, .slice none 0 0]).rangeAt w.heap.size 0 [.bool false, .slice none 0 0, .slice none 0 0]) := ⟨(LV.put _).below, World.rangeAt_setCells_same _ _ _ _ RB⟩
        clear YF YG HV BXV
        go_wp2_with ((refine wpList_store_mid rfl _ _ _ rfl w.heap.size 0 #[.bool false, .slice none 0 0, .slice none 0 0] rfl rfl RB size_it (by kernel_rfl) ?_); (refine wpList_worldE (fun V => Below w.heap.size w V ∧ V.rangeAt w.heap.size 0 [.bool false, .slice none 0 0, .slice none 0 0]) ST2.out ?_); rintro V4 ⟨BV4, RV4⟩)
        have c0 : V4.cell? ⟨w.heap.size, 0, none⟩ = some (.bool false) := RV4 0 _ rfl
        have c1 : V4.cell? ⟨w.heap.size, 1, none⟩ = some (.slice none 0 0) := RV4 1 _ rfl
        have c2 : V4.cell? ⟨w.heap.size, 2, none⟩ = some (.slice none 0 0) := RV4 2 _ rfl
        have lz : listR Z = (e1, zT) := by rw [zz, listR, if_neg ke]
        simp [bodyPost, results, Try.results46, go_sem, c0, c1, c2, lz]
        exact ⟨.slice none 0 0, .slice none 0 0, ⟨rfl, (if_neg ke).symm⟩, Ot.mk (OwnB.nil _ _) (fun j x => by cases x) (Orow.nil _ _), BV4⟩
    · have kp' : ¬ (p' : Int) < (t : Int) := by omega
      obtain ⟨va, vc, rfl⟩ : ∃ va vc, v = .slice va us.length vc := by
        rcases HLI.out.oe.2.1.2 with ⟨x, y⟩ | ⟨g, cap, _, x, _⟩
        · exact ⟨none, 0, by rw [x, y]⟩
        · exact ⟨_, cap, x⟩
      have ZE : Hid (Z = (0, us)) := by
        show Z = _
        rw [← ST.out.2.2.2.2, app_end (by omega)]
      generalize us.length = ul at HLI
      go_wp2_with fail
      refine wp_region_held_drew (S := fun w' => Li w w' hb s t (.slice va ul vc) us ps) (by kernel_rfl) (HLI.out.keep (Below.refl _ _).drew) (fun hHeld => ?_)
      refine wpAnyH_takeD (i := 0) (oi := _) (v := .agg #[.bool true, .slice none 0 0, .slice va ul vc]) 74 rfl (by kernel_rfl) (by kernel_rfl) (by kernel_rfl) (by kernel_rfl) (fun _ _ _ h => h) (yieldsIf_load_mid (by kernel_rfl) _ _ rfl (hb + 1) 0 rfl [.bool true, .slice none 0 0, .slice va ul vc] _ (fun w h => h.it) Try.underlying48 rfl size_it) (by assumption) ?_
      simp only [Act.put, List.setIfInBounds_toArray, List.set_cons_succ, List.set_cons_zero]
      refine wpAnyH_takeD (i := 1) (oi := _) (v := .pointer (some ⟨hb, 2, none⟩)) 75 rfl (by kernel_rfl) (by kernel_rfl) (by kernel_rfl) (by kernel_rfl) (fun _ _ _ h => h) (Or.inl ⟨by kernel_rfl, fun wq hSw => (by have x2 := hSw.hd.2.2; go_simp)⟩) (by assumption) ?_
      simp only [Act.put, List.setIfInBounds_toArray, List.set_cons_succ, List.set_cons_zero]
      refine wpAnyH_takeD (i := 2) (oi := _) (v := .int .i64 (t : Int)) 76 rfl (by kernel_rfl) (by kernel_rfl) (by kernel_rfl) (by kernel_rfl) (fun _ _ _ h => h) (Or.inl ⟨by kernel_rfl, fun wq hSw => (by have x2 := hSw.hd.2.2; go_simp)⟩) (by assumption) ?_
      simp only [Act.put, List.setIfInBounds_toArray, List.set_cons_succ, List.set_cons_zero]
      refine wpAnyH_ready (rs := [3]) (by kernel_rfl) (by simp) ?_
      refine AllReadyH.cons (o := { dst := none, op := .store 48 (.tmp 8) (.tmp 74), type := _, pos := _, after := _, guard := none }) rfl (fun K hK => ?_) AllReadyH.nil
      refine wp_store_mid 48 _ _ rfl w.heap.size 0 #[.bool true, .slice none 0 0, .slice va ul vc] rfl rfl hHeld.res size_it (by kernel_rfl) ?_
      have L2 := hHeld.put [.bool true, .slice none 0 0, .slice va ul vc]
      have RS := World.rangeAt_setCells_same wr.drew w.heap.size 0 [.bool true, .slice none 0 0, .slice va ul vc] hHeld.res
      refine hK.out _ _ L2 (fun hHeld => ?_)
      clear hK K
      show wpAnyH _ _ _ _ _ _ _ _ (wr.drew.setCells w.heap.size 0 [.bool true, .slice none 0 0, .slice va ul vc])
      generalize wr.drew.setCells w.heap.size 0 [.bool true, .slice none 0 0, .slice va ul vc] = U2 at *
      simp only [Act.put]
      refine wpAnyH_takeD (i := 4) (oi := _) (v := .int .i64 (t : Int)) 9 rfl (by kernel_rfl) (by kernel_rfl) (by kernel_rfl) (by kernel_rfl) (fun _ _ _ h => h) (Or.inl ⟨by kernel_rfl, fun wq hSw => (by have x2 := hSw.hd.2.2; go_simp)⟩) (by assumption) ?_
      simp only [Act.put, List.setIfInBounds_toArray, List.set_cons_succ, List.set_cons_zero]
      refine wpAnyH_takeD (i := 5) (oi := _) (v := .int .i64 0) 10 rfl (by kernel_rfl) (by kernel_rfl) (by kernel_rfl) (by kernel_rfl) (fun _ _ _ h => h) (Or.inl ⟨by kernel_rfl, fun wq hSw => (by have x2 := hSw.hd.2.2; go_simp)⟩) (by assumption) ?_
      simp only [Act.put, List.setIfInBounds_toArray, List.set_cons_succ, List.set_cons_zero]
      refine wpAnyH_done (by kernel_rfl) ?_ _
      have c0 : U2.cell? ⟨w.heap.size, 0, none⟩ = some (.bool true) := RS 0 _ rfl
      have c1 : U2.cell? ⟨w.heap.size, 1, none⟩ = some (.slice none 0 0) := RS 1 _ rfl
      have c2 : U2.cell? ⟨w.heap.size, 2, none⟩ = some (.slice va ul vc) := RS 2 _ rfl
      go_wp2_with fail
      have ze : listR Z = (0, .mk true [] us) := by rw [ZE.out]; rfl
      simp [bodyPost, results, Try.results46, go_sem, c0, c1, c2, ze]
      refine ⟨.slice none 0 0, .slice va ul vc, ⟨rfl, (if_pos rfl).symm⟩, ?_, L2.below⟩
      have hh := L2.hlt
      exact Ot.mk (OwnB.nil _ _) (fun j x => by cases x) (Orow.conv (fun j _ hS => ⟨by have : hb + 2 ≤ j := hS; omega, rfl⟩) L2.oe.row)
end Go.Proofs.Ytaefmdofchjofaa
