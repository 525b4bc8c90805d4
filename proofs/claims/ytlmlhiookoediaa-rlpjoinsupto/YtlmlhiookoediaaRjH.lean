import Derived.Test.YtlmlhiookoediaaRjG
/- Layer 7: RlpJoins. -/
namespace Go.Proofs.Ytlmlhiookoediaa
open Go.RowKit Go.Sort

theorem info_sl : (Try.prog.info? 23).map (fun i => (i.zero, i.size, i.bytes)) = some (some (.slice none 0 0), 1, 24) := by kernel_rfl
theorem info_sl_parts : ∃ j, Try.prog.info? 23 = some j ∧ j.zero = some (.slice none 0 0) ∧ j.size = 1 ∧ j.bytes = 24 := by
  have h := info_sl
  cases hi : Try.prog.info? 23 with
  | none => rw [hi] at h; simp at h
  | some j => rw [hi] at h; simp at h; exact ⟨j, rfl, h.1, h.2.1, h.2.2⟩
theorem row_below {W W' : World} {B : Nat} {e : TypeId} {v : Value} {n : Nat} {xs : List Value} (h : W.ownsRow B e 1 v n xs) (hb : Below W.heap.size W W') : W'.ownsRow B e 1 v n xs :=
  World.ownsRow.kept h (grown_of_below hb Option.none) (by cases v.ownBlock <;> simp)
theorem lnum7_any (v : Int) (w : World) : Calls Try.prog 7 #[.int .i64 v] w fun e w' => e = .returned (.int .i64 v) ∧ Below w.heap.size w w' := by
  go_enter Try.func7, Try.ntmps7
  go_wp2
  simp [bodyPost, results, Try.results7, go_sem]
  exact Below.refl _ _
theorem one_new (W : World) (v : Value) (t : TypeId) : ∀ j u, [v][j]? = some u → (W.alloc (.cells #[v] t)).cell? ((⟨W.heap.size, 0, none⟩ : Addr).add j) = some u := fun j u hu => by
  have hj : j = 0 := by
    have := (List.getElem?_eq_some_iff.1 hu).1
    simpa using this
  subst hj
  have hn : (W.alloc (.cells #[v] t)).heap[W.heap.size]? = some (.cells #[v] t) := by
    show (W.heap.push _)[W.heap.size]? = _
    simp
  rw [Addr.add_mid, Nat.zero_add, cell_of_row _ _ 0 _ _ _ hn]
  simpa using hu
theorem row_slice {W : World} {B n : Nat} {e : TypeId} {v : Value} {xs : List Value} (h : W.ownsRow B e 1 v (n + 1) xs) : ∃ gb cap, v = .slice (some ⟨gb, 0, none⟩) (n + 1) cap ∧ n + 1 ≤ cap ∧ ∀ j u, xs[j]? = some u → W.cell? ⟨gb, j, none⟩ = some u := by
  rcases h.2 with ⟨_, h0⟩ | ⟨g, cap, cur, rfl, _, _, hle, _⟩
  · omega
  · refine ⟨g, cap, rfl, hle, fun j u hu => ?_⟩
    have := h.cells (g := g) rfl j u hu
    rwa [Addr.add_mid, Nat.zero_add] at this
theorem bz_one (W : World) (x : Int) (t : TypeId) : Bz (W.alloc (.cells #[.int .u8 x] t)) W.heap.size 0 [x] := fun i hi => by
  obtain rfl : i = 0 := by simpa using hi
  have hn : (W.alloc (.cells #[Value.int .u8 x] t)).heap[W.heap.size]? = some (.cells #[.int .u8 x] t) := by
    show (W.heap.push _)[W.heap.size]? = _
    simp
  rw [Nat.zero_add, cell_of_row _ _ 0 _ _ _ hn]; rfl
/-- The list that is given, with the room behind each text. -/
def Gvn (W : World) (gb : Nat) (XS : List (List Int)) : Prop := ∀ j, j < XS.length → ∃ gj, W.cell? ⟨gb, j, none⟩ = some (.slice (some ⟨gj, 0, none⟩) (XS.getD j []).length ((XS.getD j []).length + 9)) ∧ Bz W gj 0 (XS.getD j [] ++ List.replicate 9 165)
theorem Gvn.keep {W W' : World} {gb : Nat} {XS : List (List Int)} (h : Gvn W gb XS) (hb : Below W.heap.size W W') : Gvn W' gb XS := fun j hj => by
  obtain ⟨gj, h1, h2⟩ := h j hj
  exact ⟨gj, cell_keep hb h1, h2.keep hb⟩
theorem Gvn.pz {W : World} {gb : Nat} {XS : List (List Int)} (h : Gvn W gb XS) : Pz W gb 0 XS (fun j => (W.cell? ⟨gb, j, none⟩).getD (.bool true)) := fun j hj => by
  obtain ⟨gj, h1, h2⟩ := h j hj
  have e : (fun j => (W.cell? ⟨gb, j, none⟩).getD (.bool true)) j = .slice (some ⟨gj, 0, none⟩) (XS.getD j []).length ((XS.getD j []).length + 9) := by
    show (W.cell? ⟨gb, j, none⟩).getD (.bool true) = _
    rw [h1]; rfl
  rw [Nat.zero_add, e]
  exact ⟨h1, some ⟨gj, 0, none⟩, gj, 0, (XS.getD j []).length + 9, rfl, Nat.le_add_right _ _, .inr rfl, fun e => absurd e (by simp), h2.front⟩
theorem gvn_of {W W' : World} {gv : Value} {XS : List (List Int)} {VS : List Value} {gb : Nat} {m : Value} (h : GvE W gv XS VS XS.length) (hg : W.grownBy W' gv.ownBlock) (hl : VS.length = XS.length) (hc : ∀ j u, (VS ++ [m])[j]? = some u → W'.cell? ⟨gb, j, none⟩ = some u) : Gvn W' gb XS := fun j hj => by
  obtain ⟨gj, h1, h2, h3⟩ := h j hj
  exact ⟨gj, hc j _ (by rw [List.getElem?_append_left (by omega)]; exact h1), h2.grownE hg h3⟩
set_option maxRecDepth 100000 in
set_option maxHeartbeats 16000000 in
theorem joins_any {a : Option Addr} {b o c : Nat} {XS : List (List Int)} {V : Nat → Value} (hl : lenS XS XS.length ≤ 1048576) (hn : XS.length ≤ 1048576) (hx : ∀ i, i < XS.length → (XS.getD i []).length ≤ 1048576) (ha : AzP a b o XS) (w : World) (hE : Pz w b o XS V) :
    Calls Try.prog 3 #[.slice a XS.length c] w fun e w' => e = .returned (.bool true) ∧ Below w.heap.size w w' := by
  obtain ⟨iS, hiS, hz0, hz1, hz2⟩ := info_sl_parts
  have HA : Hid (AzP a b o XS ∧ LimS XS.length ∧ ∀ i, i < XS.length → LimS (XS.getD i []).length) := ⟨ha, hn, hx⟩
  have HI : Hid (∀ W, Below w.heap.size w W → Pz W b o XS V) := fun W B => hE.keep B
  have n1 : (XS.length : Int) ≤ 1048576 := by omega
  have RO : Hid (∀ i, i < XS.length → ∀ W, Below w.heap.size w W → Calls Try.prog 4 #[V i] W fun e w' => ∃ g, e = .returned (.slice (some ⟨g, 0, none⟩) (XS.getD i []).length ((XS.getD i []).length + 9)) ∧ W.heap.size ≤ g ∧ Bz w' g 0 (XS.getD i [] ++ List.replicate 9 165) ∧ Below W.heap.size W w') := fun i hi W B => by
    obtain ⟨_, a1, g1, p1, c1, ev, _, z1, _, y1⟩ := hE.keep B i hi
    rw [ev]
    refine (roomy7_any (cb := c1) z1 (by have := hx i hi; omega) W y1).mono ?_
    rintro e w' ⟨g, h1, h2, h3, h4⟩
    exact ⟨g, h1, h2, fun k hk => by rw [Nat.zero_add]; exact h3.1 k hk, h4⟩
  have JO : Hid (∀ W g cap V', Pz W g 0 XS V' → Calls Try.prog 5 #[.slice (some ⟨g, 0, none⟩) XS.length cap] W fun e w' => ∃ v, e = .returned (.tuple #[v, .int .i64 0]) ∧ OwnB W.heap.size w' v (hdR 192 (lenS XS XS.length) ++ flS XS XS.length) ∧ Below W.heap.size W w') := fun W g cap V' h => join_any hl hn (.inr rfl) W h
  have RJ : Hid (∀ W, Below w.heap.size w W → Calls Try.prog 6 #[.slice a XS.length c] W fun e w' => ∃ v, e = .returned (.tuple #[v, .int .i64 0]) ∧ OwnB W.heap.size w' v (hdR 192 (lenS XS XS.length) ++ flS XS XS.length) ∧ Below W.heap.size W w') := fun W B => rjoin_any hl hn ha W (hE.keep B)
  have AL : Hid (∀ W g cap V', Below w.heap.size w W → Pz W g 0 XS V' → Calls Try.prog 9 #[.slice (some ⟨g, 0, none⟩) XS.length cap, .slice a XS.length c] W fun e w' => e = .returned (.bool true) ∧ Below W.heap.size W w') := fun W g cap V' B h => alike_yes (fun i hi => by have := hx i hi; omega) hn (.inr rfl) ha W h (hE.keep B)
  have LJ : Hid ((hdR 192 (lenS XS XS.length) ++ flS XS XS.length).length < 281474976710656) := by
    show _ < _
    rw [List.length_append, flS_len]
    have := hdR_len 192 (lenS XS XS.length)
    omega
  have NU : Hid (∀ (v : Int) (w : World), Calls Try.prog 7 #[.int .i64 v] w fun e w' => e = .returned (.int .i64 v) ∧ Below w.heap.size w w') := fun v w => lnum7_any v w
  have SA : Hid (∀ W B1 B2 v1 v2 (Z : List Int), Z.length < 281474976710656 → OwnB B1 W v1 Z → OwnB B2 W v2 Z → Calls Try.prog 8 #[v1, v2] W fun e w' => e = .returned (.bool true) ∧ Below W.heap.size W w') := fun W B1 B2 v1 v2 Z hz h1 h2 => by
    obtain ⟨a1, g1, c1, rfl, _, z1, y1, _⟩ := h1.lies
    obtain ⟨a2, g2, c2, rfl, _, z2, y2, _⟩ := h2.lies
    have k := same7_any (c := c1) (c' := c2) hz z1 z2 W y1 y2
    rw [decide_eq_true rfl] at k
    exact k
  have SB : Hid (∀ W g1 g2 c1 c2, Bz W g1 0 [164] → Bz W g2 0 [164] → Calls Try.prog 8 #[.slice (some ⟨g1, 0, none⟩) 1 c1, .slice (some ⟨g2, 0, none⟩) 1 c2] W fun e w' => e = .returned (.bool true) ∧ Below W.heap.size W w') := fun W g1 g2 c1 c2 h1 h2 => by
    have k := same7_any (X := [164]) (Z := [164]) (c := c1) (c' := c2) (by decide) (.inr rfl) (.inr rfl) W h1 h2
    rw [decide_eq_true rfl] at k
    exact k
  have SP : Hid (∀ j, j < XS.length → ∀ W g, Bz W g 0 (XS.getD j [] ++ List.replicate 9 165) → Calls Try.prog 10 #[.slice (some ⟨g, 0, none⟩) (XS.getD j []).length ((XS.getD j []).length + 9)] W fun e w' => e = .returned (.bool true) ∧ Below W.heap.size W w') := fun j hj W g h => spared7_yes (by have := hx j hj; omega) (Nat.le_refl _) W (fun i h1 h2 => by
    have := h i (by rw [List.length_append, List.length_replicate]; omega)
    rw [this, List.getD, List.getElem?_append_right h1, List.getElem?_replicate, if_pos (by omega)]; rfl)
  clear hl hn hx ha hE
  generalize hdR 192 (lenS XS XS.length) ++ flS XS XS.length = JL at *
  go_enter Try.func3, Try.ntmps3
  go_wp2_with fail
  go_loopg [3, 4] XS.length (fun kk gv iv wr => ∃ (i : Nat) (VS : List Value), kk = XS.length - i ∧ i ≤ XS.length ∧ iv = .int .i64 (i : Int) ∧ wr.ownsRow w.heap.size 23 1 gv i VS ∧ GvE wr gv XS VS i ∧ Below w.heap.size w wr)
  case atStart => exact ⟨0, [], rfl, Nat.zero_le _, rfl, World.ownsRow_nil _ _ _ _, fun j hj => absurd hj (Nat.not_lt_zero _), Below.refl _ _⟩
  case round =>
    obtain ⟨i, VS, hk, hi, rfl, ow, ge, B⟩ := hrel
    have HK : Hid (gk = XS.length - i ∧ i ≤ XS.length) := ⟨hk, hi⟩
    clear hk
    by_cases h8 : i = XS.length
    · subst h8
      have VL : Hid (VS.length = XS.length) := by
        show VS.length = XS.length
        have := ow.1
        omega
      have L1 : Hid (wr.ownsRow w.heap.size 23 1 u3 XS.length VS ∧ GvE wr u3 XS VS XS.length ∧ Below w.heap.size w wr) := ⟨ow, ge, B⟩
      clear ow ge B HK hi RO
      have o1 : ∀ ob, (wr.alloc ob).heap.size = wr.heap.size + 1 := fun ob => World.size_alloc _ _
      have on1 : Hid (∀ (ob : Obj) (v : Value) (t : TypeId), ∀ j u, [v][j]? = some u → ((wr.alloc ob).alloc (.cells #[v] t)).cell? ((⟨wr.heap.size + 1, 0, none⟩ : Addr).add j) = some u) := fun ob v t => by
        have h := one_new (wr.alloc ob) v t
        rw [o1] at h; exact h
      go_wp2_with ((at_builtin; go_loud (refine wpList_append_own_at _ rfl _ _ 22 rfl w.heap.size 23 iS (.slice none 0 0) 1 24 Try.underlying22 hiS hz0 hz1 hz2 rfl (by decide) u3 _ _ rfl ((L1.out.1.alloc _).alloc _) ⟨wr.heap.size + 1, 0, none⟩ 1 1 [.slice (some ⟨wr.heap.size, 0, none⟩) 1 1] rfl rfl (on1.out _ _ _) (fun u hu => by simp at hu; subst hu; rfl) (by unfold maxLen; have := HA.out.2.1.le; omega) (by have := HA.out.2.1.le; omega) (by have := L1.out.2.2.size; simp; omega) ?_); intro v' w3 hown' hgrow3 hnil3 hblk; obtain ⟨gb, cap, rfl, hcap, hcs⟩ := row_slice hown'; have hcap' : (XS.length : Int) + 1 ≤ (cap : Int) := by omega))
      have bA := fun ob1 ob2 => ((Below.refl wr.heap.size wr).alloc (Nat.le_refl _) ob1).alloc (by rw [o1]; omega) ob2
      have nk : u3.ownBlock ≠ some wr.heap.size := fun e => by have := (World.ownsRow.lt L1.out.1 _ e).2; omega
      have gvn := gvn_of (L1.out.2.1.keep (bA _ _)) hgrow3 VL.out hcs
      have mc := hcs XS.length _ (by rw [List.getElem?_append_right (by rw [VL.out]; exact Nat.le_refl _), VL.out, Nat.sub_self]; rfl)
      have mb := ((bz_one wr 164 _).keep ((Below.refl _ _).alloc (Nat.le_refl _) _)).grownE hgrow3 nk
      have bW := ((L1.out.2.2.alloc L1.out.2.2.size _).alloc (by have := L1.out.2.2.size; rw [o1]; omega) _).grown hgrow3 (by have := L1.out.2.2.size; simp; omega) (fun k hk => (World.ownsRow.lt L1.out.1 k hk).1)
      have K3 : Hid (∀ W, Below w3.heap.size w3 W → Below w.heap.size w W ∧ Gvn W gb XS ∧ W.cell? ⟨gb, XS.length, none⟩ = some (.slice (some ⟨wr.heap.size, 0, none⟩) 1 1) ∧ Bz W wr.heap.size 0 [164]) := fun W b => ⟨bW.trans (b.mono bW.size), gvn.keep b, cell_keep b mc, mb.keep b⟩
      clear hown' hgrow3 hnil3 hblk hcs bA nk gvn mc mb bW L1 VL on1 hcap
      generalize wr.heap.size = gm at *
      have B3 : Below w3.heap.size w3 w3 := Below.refl _ _
      with_reducible refine (JO.out w3 gb cap _ (K3.out w3 B3).2.1.pz).mono ?_
      rintro e w5 ⟨v5, rfl, o5, hb⟩
      replace B3 := B3.trans hb
      clear hb
      go_wp2_with fail
      with_reducible refine (RJ.out w5 (K3.out w5 B3).1).mono ?_
      rintro e w6 ⟨v6, rfl, o6, hb⟩
      replace B3 := B3.trans (hb.mono B3.size)
      replace o5 := o5.keep hb
      clear hb
      go_wp2_with fail
      with_reducible refine (NU.out _ w6).mono ?_
      rintro e w7 ⟨rfl, hb⟩
      replace B3 := B3.trans (hb.mono B3.size)
      replace o5 := o5.keep hb
      replace o6 := o6.keep hb
      clear hb
      go_wp2_with fail
      with_reducible refine (SA.out w7 _ _ v5 v6 JL LJ.out o5 o6).mono ?_
      rintro e w8 ⟨rfl, hb⟩
      replace B3 := B3.trans (hb.mono B3.size)
      clear hb o5 o6
      go_wp2_with fail
      with_reducible refine (AL.out w8 gb cap _ (K3.out w8 B3).1 (K3.out w8 B3).2.1.pz).mono ?_
      rintro e w9 ⟨rfl, hb⟩
      replace B3 := B3.trans (hb.mono B3.size)
      clear hb
      go_wp2_with fail
      obtain ⟨wo, rfl⟩ : ∃ wo : World, wo = wr := ⟨wr, rfl⟩
      go_loopg [9] XS.length (fun kk iv w9 => ∃ i : Nat, kk = XS.length - i ∧ i ≤ XS.length ∧ iv = .int .i64 (i : Int) ∧ Below w3.heap.size w3 w9)
      case atStart => exact ⟨0, rfl, Nat.zero_le _, rfl, B3⟩
      case round =>
        clear B3
        obtain ⟨i, hk, hi, rfl, B3⟩ := hrel
        have HK : Hid (gk = XS.length - i ∧ i ≤ XS.length) := ⟨hk, hi⟩
        clear hk
        by_cases h8 : i = XS.length
        · subst h8
          have mc := (K3.out wr B3).2.2.1
          have SBA : Hid (∀ t : TypeId, Calls Try.prog 8 #[.slice (some ⟨gm, 0, none⟩) 1 1, .slice (some ⟨wr.heap.size, 0, none⟩) 1 1] (wr.alloc (.cells #[.int .u8 164] t)) fun e w' => e = .returned (.bool true) ∧ Below (wr.alloc (.cells #[.int .u8 164] t)).heap.size (wr.alloc (.cells #[.int .u8 164] t)) w') := fun t => SB.out _ gm wr.heap.size 1 1 ((K3.out wr B3).2.2.2.keep ((Below.refl _ _).alloc (Nat.le_refl _) _)) (bz_one wr 164 t)
          have bF : ∀ ob, Below w.heap.size w (wr.alloc ob) := fun ob => (K3.out _ (B3.alloc B3.size ob)).1
          go_wp2_with ((with_reducible refine (SBA.out _).mono ?_); rintro e1 w1 ⟨rfl, hbz⟩)
          simp [bodyPost, results, Try.results3, go_sem]
          exact (bF _).trans (hbz.mono (bF _).size)
        · have hlt : i < XS.length := by omega
          have hlt' : (i : Int) < (XS.length : Int) := by omega
          obtain ⟨gj, c1, zj⟩ := (K3.out wr B3).2.1 i hlt
          have sp := SP.out i hlt wr gj zj
          clear zj hi h8
          generalize (XS.getD i []).length = n at c1 sp
          go_wp2_with ((with_reducible refine sp.mono ?_); rintro e1 w1 ⟨rfl, hbz⟩)
          go_roundg (XS.length - (i + 1))
          case measure => have := HK.out.1; omega
          case rel => exact ⟨i + 1, rfl, hlt, by go_num, B3.trans (hbz.mono B3.size)⟩
    · have hlt : i < XS.length := by omega
      have hlt' : (i : Int) < (XS.length : Int) := by omega
      obtain rfl := HA.out.1.cons (by omega)
      have c1 := (HI.out wr B i hlt).1
      have ro := RO.out i hlt wr B
      have OW : Hid (wr.ownsRow w.heap.size 23 1 u3 i VS ∧ GvE wr u3 XS VS i ∧ Below w.heap.size w wr ∧ LimS i) := ⟨ow, ge, B, Nat.le_trans hi HA.out.2.1⟩
      have VL : Hid (VS.length = i) := by
        show VS.length = i
        have := ow.1
        omega
      clear hi h8 ow ge B
      generalize V i = vi at *
      obtain ⟨X, eX⟩ : ∃ X, X = XS.getD i [] := ⟨_, rfl⟩
      rw [← eX] at ro
      have HX : Hid (X = XS.getD i []) := eX
      clear eX
      go_wp2_with fail
      with_reducible refine ro.mono ?_
      rintro e w1 ⟨gi, rfl, hg1, bz, b1⟩
      have own1 : w1.ownsRow w.heap.size 23 1 u3 i VS := row_below OW.out.1 b1
      have ge1 := OW.out.2.1.keep b1
      have B1 := OW.out.2.2.1.trans (b1.mono OW.out.2.2.1.size)
      have ng : u3.ownBlock ≠ some gi := fun e => by have := (World.ownsRow.lt OW.out.1 gi e).2; omega
      have L1 : Hid (w1.ownsRow w.heap.size 23 1 u3 i VS ∧ GvE w1 u3 XS VS i ∧ Below w.heap.size w w1 ∧ u3.ownBlock ≠ some gi ∧ Bz w1 gi 0 (X ++ List.replicate 9 165) ∧ LimS i) := ⟨own1, ge1, B1, ng, bz, OW.out.2.2.2⟩
      clear own1 ge1 B1 ng bz b1 hg1 OW ro c1
      go_wp2_with ((at_builtin; go_loud (refine wpList_append_own_at _ rfl _ _ 22 rfl w.heap.size 23 iS (.slice none 0 0) 1 24 Try.underlying22 hiS hz0 hz1 hz2 rfl (by decide) u3 _ _ rfl (L1.out.1.alloc _) ⟨w1.heap.size, 0, none⟩ 1 1 [.slice (some ⟨gi, 0, none⟩) X.length (X.length + 9)] rfl rfl (one_new _ _ _) (fun u hu => by simp at hu; subst hu; rfl) (by unfold maxLen; have := L1.out.2.2.2.2.2.le; omega) (by have := L1.out.2.2.2.2.2.le; omega) (by have := L1.out.2.2.1.size; simp; omega) ?_); intro v' w3 hown' hgrow3 hnil3 hblk))
      have bA := fun ob => (Below.refl w1.heap.size w1).alloc (Nat.le_refl _) ob
      have st := GvE.step VL.out (L1.out.2.1.keep (bA _)) (by rw [← HX.out]; exact L1.out.2.2.2.2.1.keep (bA _)) L1.out.2.2.2.1 hgrow3 hblk
      rw [← HX.out] at st
      have bW := (L1.out.2.2.1.alloc L1.out.2.2.1.size _).grown hgrow3 (by have := L1.out.2.2.1.size; simp; omega) (fun k hk => (World.ownsRow.lt L1.out.1 k hk).1)
      have HO : Hid (w3.ownsRow w.heap.size 23 1 v' (i + 1) (VS ++ [.slice (some ⟨gi, 0, none⟩) X.length (X.length + 9)]) ∧ GvE w3 v' XS (VS ++ [.slice (some ⟨gi, 0, none⟩) X.length (X.length + 9)]) (i + 1) ∧ Below w.heap.size w w3) := ⟨hown', st, bW⟩
      clear hown' hgrow3 hnil3 hblk st bW bA L1
      go_roundg (XS.length - (i + 1))
      case measure => have := HK.out.1; omega
      case rel => exact ⟨i + 1, _, rfl, hlt, by go_num, HO.out⟩
end Go.Proofs.Ytlmlhiookoediaa
