import Derived.Test.YtcjabligkeaafaaDoorRbC
import Derived.Test.YtcjabligkeaafaaDoorRows
import Derived.WalkKit
/- Layer 17: ReceiptBlooms: the law. -/
namespace Go.Proofs.YtcjabligkeaafaaDoor.tq
open Go.RowKit Go.Sort
/-- What stands all along; the filter that is put together. -/
def RbI (w V : World) (b4 b5 b7 b8 : Nat) (CC CD N M : List Value) : Prop := Below w.heap.size w V ∧ (V.rangeAt b4 0 CC ∧ V.rangeAt b5 0 CD ∧ V.rangeAt b7 0 N) ∧ V.rangeAt b8 0 M ∧ V.there b8 0 256 ∧ (w.heap.size ≤ b4 ∧ b4 < b5 ∧ b5 < b7 ∧ b7 < b8 ∧ b8 < V.heap.size)
theorem RbI.keep {w V V' : World} {b4 b5 b7 b8 : Nat} {CC CD N M : List Value} (h : RbI w V b4 b5 b7 b8 CC CD N M) (B : Below V.heap.size V V') : RbI w V' b4 b5 b7 b8 CC CD N M :=
  ⟨h.1.trans (B.mono h.1.size), ⟨range_keep h.2.1.1 B, range_keep h.2.1.2.1 B, range_keep h.2.1.2.2 B⟩, range_keep h.2.2.1 B, there_keepT h.2.2.2.1 h.2.2.2.2.2.2.2.2 B, ⟨h.2.2.2.2.1, h.2.2.2.2.2.1, h.2.2.2.2.2.2.1, h.2.2.2.2.2.2.2.1, Nat.lt_of_lt_of_le h.2.2.2.2.2.2.2.2 B.size⟩⟩
theorem RbI.store {w V V' : World} {b4 b5 b7 b8 : Nat} {CC CD N M M' : List Value} (h : RbI w V b4 b5 b7 b8 CC CD N M) (u : But V V' b8) (r : V'.rangeAt b8 0 M') (t : V'.there b8 0 256) : RbI w V' b4 b5 b7 b8 CC CD N M' := by
  obtain ⟨h1, ⟨h2, h3, h4⟩, _, _, h5⟩ := h
  exact ⟨u.below (by omega) h1, ⟨range_same h2 (u.block _ (by omega)), range_same h3 (u.block _ (by omega)), range_same h4 (u.block _ (by omega))⟩, r, t, ⟨h5.1, h5.2.1, h5.2.2.1, h5.2.2.2.1, by rw [u.size]; exact h5.2.2.2.2⟩⟩
theorem RbI.other {w V V' : World} {b4 b5 b7 b8 x : Nat} {CC CD N M : List Value} (h : RbI w V b4 b5 b7 b8 CC CD N M) (u : But V V' x) (hx : b8 < x) : RbI w V' b4 b5 b7 b8 CC CD N M := by
  obtain ⟨h1, ⟨h2, h3, h4⟩, h6, h7, h5⟩ := h
  exact ⟨u.below (by omega) h1, ⟨range_same h2 (u.block _ (by omega)), range_same h3 (u.block _ (by omega)), range_same h4 (u.block _ (by omega))⟩, range_same h6 (u.block _ (by omega)), there_same h7 (u.block _ (by omega)), ⟨h5.1, h5.2.1, h5.2.2.1, h5.2.2.2.1, by rw [u.size]; exact h5.2.2.2.2⟩⟩
theorem heap_cellR {W W' : World} {b i : Nat} (h : W'.heap[b]? = W.heap[b]?) : W'.cell? ⟨b, i, none⟩ = W.cell? ⟨b, i, none⟩ := World.cell?_of_block (w := W) (a := ⟨b, i, none⟩) h
theorem store_sets {V : World} {b : Nat} {L : List Value} (t : V.there b 0 L.length) : But V (V.setCells b 0 L) b ∧ (V.setCells b 0 L).rangeAt b 0 L ∧ (V.setCells b 0 L).there b 0 L.length :=
  ⟨but_sets _ _ _, World.rangeAt_setCells_same _ _ _ _ t, fun j hj => ⟨by
    have := World.rangeAt_setCells_same V b 0 L t j _ (List.getElem?_eq_getElem hj)
    rw [this]; rfl, by rw [World.frozen?_setCells]; exact (t j hj).2⟩⟩
theorem lsG_one {W : World} {b : Nat} {l : Lg} (h : LgG W l) (r : W.rangeAt b 0 (lgC l)) : LsG W (some ⟨b, 0, none⟩) b 0 1 [l] := ⟨⟨Nat.le_refl _, fun e => by cases e⟩, .inr rfl, fun i hi => by
  have : i = 0 := by simp at hi; omega
  subst this
  exact ⟨h, by simpa using r⟩⟩
theorem blL_one {l l' : Lg} (h : txL l' = txL l) : blL [l'] = blL [l] := by unfold blL; simp [List.flatMap, h]
theorem byts_one (F : List (BitVec 8)) : ∀ u ∈ S.byts F, u.oneCell' = true := fun u hu => by unfold S.byts at hu; obtain ⟨x, _, rfl⟩ := List.mem_map.1 hu; rfl
theorem row_slice {W : World} {B k n : Nat} {e : TypeId} {v : Value} {xs : List Value} (h : W.ownsRow B e k v n xs) : ∃ a c, v = .slice a n c := by
  rcases h.2 with ⟨rfl, h0⟩ | ⟨g, c, cur, x, _⟩
  · exact ⟨none, 0, by rw [h0]⟩
  · exact ⟨_, c, x⟩
theorem asG_one {W : World} {b : Nat} {A : List Int} (h : AdG A) (r : W.rangeAt b 0 (hC A)) : AsG W (some ⟨b, 0, none⟩) b 0 1 [A] := ⟨⟨Nat.le_refl _, fun e => by cases e⟩, .inr rfl, fun i hi => by
  have : i = 0 := by simp at hi; omega
  subst this
  exact ⟨h, by simpa using r⟩⟩
theorem ksG_one {W : World} {b : Nat} {A : List Int} (h : HaG A) (r : W.rangeAt b 0 (hC A)) : KsG W (some ⟨b, 0, none⟩) b 0 1 [A] := ⟨⟨Nat.le_refl _, fun e => by cases e⟩, .inr rfl, fun i hi => by
  have : i = 0 := by simp at hi; omega
  subst this
  exact ⟨h, by simpa using r⟩⟩
theorem kssG_one {W : World} {b : Nat} {k : Kl} (h : KlG W k) (r : W.cell? ⟨b, 0, none⟩ = some (.slice k.a k.ks.length k.c)) : KssG W (some ⟨b, 0, none⟩) b 0 1 [k] := ⟨⟨Nat.le_refl _, fun e => by cases e⟩, .inr rfl, fun i hi => by
  have : i = 0 := by simp at hi; omega
  subst this
  refine ⟨h, fun j v hv => ?_⟩
  have hj : j = 0 := by
    have := (List.getElem?_eq_some_iff.1 hv).1
    simp [klC] at this; omega
  subst hj
  obtain rfl := Option.some.inj hv
  simpa using r⟩
/-- A log with other data. -/
theorem lgC_set {l : Lg} (h : l.adr.length = 20) (g n c : Nat) (D : List Int) (hn : D.length = n) : (lgC l).set 21 (.slice (some ⟨g, 0, none⟩) n c) = lgC { l with Da := some ⟨g, 0, none⟩, Db := g, Do := 0, Dc := c, Dl := D } := by
  unfold lgC
  rw [List.set_append_right _ _ (by rw [hC_len, h]; decide), hC_len, h]
  subst hn
  rfl
theorem rI_adR : rowInfo Tryd.prog 24 20 20 = true := by kernel_rfl
theorem rI_bl : rowInfo Tryd.prog 28 256 256 = true := by kernel_rfl
def lz : Lg := ⟨List.replicate 20 0, none, 0, 0, 0, [], none, 0, 0, 0, []⟩
theorem built_lz : Tryd.prog.built 33 [] = some (lgC lz).toArray := by kernel_rfl
theorem lz_G (W : World) : LgG W lz := ⟨⟨rfl, fun x hx => by
  have : x = 0 := by
    have h : x ∈ List.replicate 20 (0 : Int) := hx
    exact List.eq_of_mem_replicate h
  omega⟩, ⟨⟨Nat.le_refl _, fun _ => rfl⟩, .inl rfl, fun i hi => absurd hi (Nat.not_lt_zero _)⟩, ⟨⟨Nat.le_refl _, fun _ => rfl⟩, .inl rfl, fun i hi => absurd hi (Nat.not_lt_zero _), fun x hx => absurd hx (by show ¬ x ∈ ([] : List Int); exact List.not_mem_nil)⟩⟩
theorem wpList_buildR {P : Program} {ops : Array Oper} {rest : List Oper} {a : Act} {w : World} {Q : Exit → Act → World → Prop} {n gi : Nat} {gb : Bool} {ty tt : TypeId} {pos : String} {after : Array Edge} (cs : Array Value)
    (hb : P.built ty [] = some cs) (hw : Region.wanted ⟨some n, .build ty #[], tt, pos, after, some (gi, gb)⟩ (yielded ops a.tmps) = true)
    (h : wpList P ops Q rest (a.put (some n) (.agg cs)) w) : wpList P ops Q (⟨some n, .build ty #[], tt, pos, after, some (gi, gb)⟩ :: rest) a w :=
  Go.BigFrame.wpList_want hw fun _ hK => wp_build ty #[] rfl (by simp [hb]) (by simpa [hb] using hK _ _ h)
set_option maxRecDepth 100000 in
set_option maxHeartbeats 16000000 in
theorem receiptBlooms_any {a : Option Addr} {b o c : Nat} {ls : List Lg} {A T : List Int} (hn : ls.length < 1000000000) (hT : ∀ i, i < ls.length → (ls.getD i zLg).Tl.length < 1000000000) (gA : AdG A) (gT : HaG T) (w : World) (hG : LsG w a b o c ls) (hD : ∀ i, i < ls.length → (ls.getD i zLg).Dl.length < 1000000000) (hk : S.KtB w) :
    Calls Tryd.prog 3 #[.slice a ls.length c, .agg (hC A).toArray, .agg (hC T).toArray] w fun e w' => e = .returned (.bool true) ∧ Below w.heap.size w w' := by
  have GR : Hid (∀ V, Below w.heap.size w V → LsG V a b o c ls ∧ S.KtB V) := fun V B => ⟨hG.keep B, hk.keep B⟩
  have HT : Hid ((∀ i, i < ls.length → (ls.getD i zLg).Tl.length < 1000000000) ∧ ls.length < 1000000000 ∧ ∀ i, i < ls.length → (ls.getD i zLg).Dl.length < 1000000000) := ⟨hT, hn, hD⟩
  have AA : Hid (ls = [] ∨ a = some ⟨b, o, none⟩) := hG.2.1
  have GA : Hid (A.length = 20 ∧ Bys A) := gA
  have GT : Hid (T.length = 32 ∧ Bys T) := gT
  have n1 : (ls.length : Int) < 1000000000 := by omega
  have CA : Hid ((hC A).length = 20 ∧ ∀ u ∈ hC A, u.oneCell' = true) := ⟨by rw [hC_len]; exact gA.1, hC_one _⟩
  have CT : Hid ((hC T).length = 32 ∧ ∀ u ∈ hC T, u.oneCell' = true) := ⟨by rw [hC_len]; exact gT.1, hC_one _⟩
  have BO : Hid (∀ V, Below w.heap.size w V → Calls Tryd.prog 4 #[.slice a ls.length c] V fun e w' => e = .returned (.agg (S.byts (blL ls)).toArray) ∧ Below V.heap.size V w') := fun V B => bloomOf_any hn hT V (hG.keep B) (hk.keep B)
  have LB : Hid ((S.byts (blL ls)).length = 256 ∧ ∀ u ∈ S.byts (blL ls), u.oneCell' = true) := ⟨by rw [S.byts_len]; exact blL_len _, fun u hu => by unfold S.byts at hu; obtain ⟨x, _, rfl⟩ := List.mem_map.1 hu; rfl⟩
  obtain ⟨n, en⟩ : ∃ n, n = ls.length := ⟨_, rfl⟩
  have EN : Hid (ls.length = n) := en.symm
  rw [← en] at n1 BO ⊢
  obtain ⟨CC, hCC⟩ : ∃ C, C = hC A := ⟨_, rfl⟩
  have ECA : Hid (CC = hC A) := hCC
  rw [← hCC] at CA ⊢
  obtain ⟨CD, hCD⟩ : ∃ C, C = hC T := ⟨_, rfl⟩
  have ECT : Hid (CD = hC T) := hCD
  rw [← hCD] at CT ⊢
  obtain ⟨N, hN⟩ : ∃ N, N = S.byts (blL ls) := ⟨_, rfl⟩
  have EN9 : Hid (N = S.byts (blL ls)) := hN
  rw [← hN] at LB BO
  clear hn hT hD hG hk en hCC hCD hN gA gT
  go_enter Tryd.func3, Tryd.ntmps3
  go_wp2_with first
    | (refine wpList_boxT rfl 24 _ rfl CC rfl ?_; intro b4 W1 h1 BB r4)
    | (refine wpList_boxT rfl 26 _ rfl CD rfl ?_; intro b5 W2 h2 B9 r5; replace BB := BB.trans (B9.mono BB.size); replace r4 := range_keep r4 B9; have L2 : Hid (w.heap.size ≤ b4 ∧ b4 < b5 ∧ b5 < W2.heap.size) := (show _ ∧ _ ∧ _ by have := h1.out; have := h2.out; omega); clear h1 h2 B9)
    | (go_at_call 4; refine (BO.out _ BB).mono ?_; rintro e W3 ⟨rfl, hb⟩; replace BB := BB.trans (hb.mono BB.size); replace r4 := range_keep r4 hb; replace r5 := range_keep r5 hb; replace L2 : Hid (w.heap.size ≤ b4 ∧ b4 < b5 ∧ b5 < W3.heap.size) := ⟨L2.out.1, L2.out.2.1, Nat.lt_of_lt_of_le L2.out.2.2 hb.size⟩; clear hb)
    | (refine wpList_allocT rfl 28 rfl (some 7) rfl 256 256 rI_bl ?_; intro b7 W4 h4 B9 t7; replace BB := BB.trans (B9.mono BB.size); replace r4 := range_keep r4 B9; replace r5 := range_keep r5 B9; clear B9)
    | (refine wpList_storeT rfl 28 _ _ rfl b7 N rfl rfl (by rw [LB.out.1]; exact t7) (by rw [LB.out.1]; exact size_bl) LB.out.2 ?_; intro W5 u9 r7 t9; replace BB := u9.below (by have := h4.out; have := L2.out; omega) BB; replace r4 := range_same r4 (u9.block _ (by have := h4.out; have := L2.out; omega)); replace r5 := range_same r5 (u9.block _ (by have := h4.out; have := L2.out; omega)); have L5 : Hid (w.heap.size ≤ b4 ∧ b4 < b5 ∧ b5 < b7 ∧ b7 < W5.heap.size) := (show _ ∧ _ ∧ _ ∧ _ by have := h4.out; have := L2.out; rw [u9.size]; omega); clear u9 t9 t7 h4 L2)
    | (refine S.wpList_build_zero rfl 28 rfl _ S.built_bloom ?_)
    | (refine wpList_allocT rfl 28 rfl (some 8) rfl 256 256 rI_bl ?_; intro b8 W6 h6 B9 t8; replace BB := BB.trans (B9.mono BB.size); replace r4 := range_keep r4 B9; replace r5 := range_keep r5 B9; replace r7 := range_keep r7 B9; clear B9)
    | (refine wpList_storeT rfl 28 _ _ rfl b8 (S.byts S.zF) rfl rfl (by rw [S.byts_len, S.zF_len]; exact t8) (by rw [S.byts_len, S.zF_len]; exact size_bl) (fun u hu => by unfold S.byts at hu; obtain ⟨x, _, rfl⟩ := List.mem_map.1 hu; rfl) ?_; intro W7 u9 r8 t9)
  have RI : RbI w W7 b4 b5 b7 b8 CC CD N (S.byts (blL (ls.drop n))) := by
    have l := L5.out
    have l2 := h6.out
    refine ⟨u9.below (by omega) BB, ⟨range_same r4 (u9.block _ (by omega)), range_same r5 (u9.block _ (by omega)), range_same r7 (u9.block _ (by omega))⟩, ?_, by rw [S.byts_len, S.zF_len] at t9; exact t9, ⟨l.1, l.2.1, l.2.2.1, by omega, by rw [u9.size]; omega⟩⟩
    rw [← EN.out, List.drop_length, bl_nil]; exact r8
  clear u9 r8 t9 t8 h6 L5 BB r4 r5 r7 BO
  go_loopg [9] n (fun k iv wr => ∃ q : Nat, k = q ∧ q ≤ n ∧ iv = .int .i64 ((q : Int) - 1) ∧ RbI w wr b4 b5 b7 b8 CC CD N (S.byts (blL (ls.drop q))))
  case atStart => exact ⟨n, rfl, Nat.le_refl _, by go_num, RI⟩
  case round =>
    clear RI
    obtain ⟨q, hk, hq, rfl, hi⟩ := hrel
    have HK : Hid (gk = q) := hk
    have RI : Hid (RbI w wr b4 b5 b7 b8 CC CD N (S.byts (blL (ls.drop q)))) := hi
    clear hk hi
    cases q with
    | zero =>
      have e1 : (((0 : Nat) : Int) - 1) = -1 := rfl
      rw [e1]
      clear e1
      have FI : Hid (∀ (U : World) (x y z : Nat), Below w.heap.size w U → U.rangeAt x 0 CC → U.rangeAt y 0 CD → U.cell? ⟨z, 0, none⟩ = some (.slice (some ⟨y, 0, none⟩) 1 1) → Calls Tryd.prog 7 #[.slice a n c, .slice (some ⟨x, 0, none⟩) 1 1, .slice (some ⟨z, 0, none⟩) 1 1] U fun e w' => ∃ af FL cf, e = .returned (.slice af FL cf) ∧ (0 < FL → hasX (blL ls) A = true ∧ hasX (blL ls) T = true) ∧ Below U.heap.size U w') := fun U x y z hB h1 h2 h3 => by
        rw [ECA.out] at h1
        rw [ECT.out] at h2
        have h := find_any (ls := ls) (As := [A]) (L := [⟨some ⟨y, 0, none⟩, y, 0, 1, [T]⟩]) (aa := some ⟨x, 0, none⟩) (ba := x) (oa := 0) (ca := 1) (ak := some ⟨z, 0, none⟩) (bk := z) (ok := 0) (ck := 1) (a := a) (b := b) (o := o) (c := c) ⟨by show 1 ≤ 1000000000; decide, by show 1 ≤ 1000000000; decide, fun i hi => by
          have : i = 0 := by simp at hi; omega
          subst this
          show 1 ≤ 1000000000
          decide⟩ ⟨HT.out.2.1, fun i hi => ⟨HT.out.1 i hi, HT.out.2.2 i hi⟩⟩ U (GR.out U hB).1 (asG_one GA.out h1) (kssG_one (ksG_one GT.out h2) h3)
        rw [EN.out] at h
        refine h.mono fun e w' ⟨v, e1, e2, e3⟩ => ?_
        obtain ⟨a9, c9, rfl⟩ := row_slice e2
        refine ⟨a9, _, c9, e1, fun hp => ?_, e3⟩
        refine fnd_has (a := some ⟨y, 0, none⟩) (b := y) (o := 0) (c := 1) (fun e => ?_)
        rw [EN.out] at e
        rw [e] at hp
        exact absurd hp (Nat.lt_irrefl _)
      have EZ : ls.drop 0 = ls := rfl
      rw [EZ, ← EN9.out] at RI
      clear EZ hq HK n1
      have r4 := RI.out.2.1.1
      go_wp2_with first
        | (refine wpList_load_midT rfl 24 _ rfl b4 0 rfl CC _ r4 Tryd.underlying24 rfl (by rw [CA.out.1]; exact size_ad) ?_; refine wpList_build_oneR rfl Tryd.underlying38 rI_adR (by decide) (by decide) rfl rfl CA.out.1 ?_; refine wpList_worldA (fun U => Below wr.heap.size wr U ∧ U.rangeAt wr.heap.size 0 CC ∧ U.heap.size = wr.heap.size + 1) ⟨(Below.refl _ _).alloc (Nat.le_refl _) _, rows_one, World.size_alloc _ _⟩ ?_; rintro U1 ⟨B1, q1, z1⟩; have r5 := range_keep RI.out.2.1.2.1 B1)
        | (refine wpList_load_midT rfl 26 _ rfl b5 0 rfl CD _ r5 Tryd.underlying26 rfl (by rw [CT.out.1]; exact size_hs) ?_; refine wpList_build_oneR rfl Tryd.underlying30 rI_h (by decide) (by decide) rfl rfl CT.out.1 ?_; refine wpList_worldA (fun U => Below U1.heap.size U1 U ∧ U.rangeAt U1.heap.size 0 CD ∧ U.heap.size = U1.heap.size + 1) ⟨(Below.refl _ _).alloc (Nat.le_refl _) _, rows_one, World.size_alloc _ _⟩ ?_; rintro U2 ⟨B2, q2, z2⟩)
      rw [z1] at q2
      refine (FI.out _ wr.heap.size (wr.heap.size + 1) (wr.heap.size + 1 + 1) (((RI.out.1.trans (B1.mono RI.out.1.size)).trans (B2.mono (by have := RI.out.1.size; omega))).alloc (by have := RI.out.1.size; omega) _) (range_keep (range_keep q1 B2) ((Below.refl _ _).alloc (Nat.le_refl _) _)) (range_keep q2 ((Below.refl _ _).alloc (Nat.le_refl _) _)) (by
        have e : wr.heap.size + 1 + 1 = U2.heap.size := by omega
        rw [e, World.cell?_alloc_mark]; rfl)).mono ?_
      rintro e W9 ⟨a9, FL, c9, rfl, hfl, hb⟩
      have RI9 : Hid (RbI w W9 b4 b5 b7 b8 CC CD N N) := RI.out.keep ((B1.trans (B2.mono B1.size)).trans (((Below.refl _ _).alloc (Nat.le_refl _) _ |>.trans (hb.mono (by rw [World.size_alloc]; omega))).mono (by omega)))
      have HF : Hid (0 < FL → hasX (blL ls) A = true ∧ hasX (blL ls) T = true) := hfl
      clear hb B1 B2 q1 q2 z1 z2 FI RI r4 r5 hfl
      obtain ⟨F, hF⟩ : ∃ F, F = blL ls := ⟨_, rfl⟩
      have LF : Hid (F.length = 256) := by show _ = _; rw [hF]; exact blL_len _
      have e9 := EN9.out
      rw [← hF] at e9 HF
      subst e9
      clear EN9 hF
      have eqb := fun w => S.eq_bloom LF.out LF.out w
      rw [decide_eq_true rfl] at eqb
      have eqz := fun w => S.eq_bloom S.zF_len S.zF_len w
      rw [decide_eq_true rfl] at eqz
      have bz := S.built_bloom
      have PL : Hid ((blL [lz]).length = 256 ∧ blL [lz] ≠ S.zF) := ⟨blL_len _, bl_pos _⟩
      have BN : Hid (∀ V, Below w.heap.size w V → Calls Tryd.prog 4 #[.slice none 0 0] V fun e w' => e = .returned (.agg (S.byts S.zF).toArray) ∧ Below V.heap.size V w') := fun V B => bloomOf_any (ls := []) (a := none) (b := 0) (o := 0) (c := 0) (by show 0 < 1000000000; decide) (fun i hi => absurd hi (Nat.not_lt_zero _)) V ⟨⟨Nat.le_refl _, fun _ => rfl⟩, .inl rfl, fun i hi => absurd hi (Nat.not_lt_zero _)⟩ (GR.out V B).2
      have B1 : Hid (∀ V x, Below w.heap.size w V → V.rangeAt x 0 (lgC lz) → Calls Tryd.prog 4 #[.slice (some ⟨x, 0, none⟩) 1 1] V fun e w' => e = .returned (.agg (S.byts (blL [lz])).toArray) ∧ Below V.heap.size V w') := fun V x B r => bloomOf_any (ls := [lz]) (a := some ⟨x, 0, none⟩) (b := x) (o := 0) (c := 1) (by show 1 < 1000000000; decide) (fun i hi => by
        have : i = 0 := by simp at hi; omega
        subst this
        show 0 < 1000000000
        decide) V (lsG_one (lz_G V) r) (GR.out V B).2
      have CZ : Hid ((lgC lz).length = 22) := lgC_len rfl
      have bl := built_lz
      generalize blL [lz] = P at *
      generalize lgC lz = cz at *
      have eqp := fun w => S.eq_bloom PL.out.1 S.zF_len w
      rw [decide_eq_false PL.out.2] at eqp
      have HAx : Hid (∀ X nX V bX, X.length = nX → nX < 1000000000 → Bys X → hasX F X = true → Below w.heap.size w V → V.rangeAt bX 0 (hC X) → Calls Tryd.prog 6 #[.agg (S.byts F).toArray, .slice (some ⟨bX, 0, none⟩) nX nX] V fun e w' => e = .returned (.bool true) ∧ Below V.heap.size V w') := fun X nX V bX h2 h3 h4 h1 h5 h6 => by
        have h := has_I (F := F) (c := nX) LF.out h2 h3 h4 (Nat.le_refl _) h6 (GR.out V h5).2
        rw [h1] at h
        exact h
      have HASA : Hid (0 < FL → ∀ d os, Calls Tryd.prog 6 #[.agg (S.byts F).toArray, .slice (some ⟨b4, 0, none⟩) 20 20] (grow (redrawn W9 d) os) fun e w' => e = .returned (.bool true) ∧ Below (grow (redrawn W9 d) os).heap.size (grow (redrawn W9 d) os) w') := fun h d os => HAx.out A 20 _ b4 GA.out.1 (by decide) GA.out.2 (HF.out h).1 (RI9.out.1.trans ((below_regrown W9 d os).mono RI9.out.1.size)) (by rw [← ECA.out]; exact range_keep RI9.out.2.1.1 (below_regrown W9 d os))
      have HASB : Hid (0 < FL → ∀ d os, Calls Tryd.prog 6 #[.agg (S.byts F).toArray, .slice (some ⟨b5, 0, none⟩) 32 32] (grow (redrawn W9 d) os) fun e w' => e = .returned (.bool true) ∧ Below (grow (redrawn W9 d) os).heap.size (grow (redrawn W9 d) os) w') := fun h d os => HAx.out T 32 _ b5 GT.out.1 (by decide) GT.out.2 (HF.out h).2 (RI9.out.1.trans ((below_regrown W9 d os).mono RI9.out.1.size)) (by rw [← ECT.out]; exact range_keep RI9.out.2.1.2.1 (below_regrown W9 d os))
      clear HAx HF GR HT GA GT EN ECA ECT PL AA
      go_wp2_with fail
      rcases (show FL = 0 ∨ 0 < FL by omega) with h0 | h0
      · subst h0
        refine wp_region_quiet_below (by kernel_rfl) (by kernel_rfl) ?_
        repeat
          first
            | go_big_quiet_skip
            | (go_big_quiet_want; go_big_quiet_op; go_big_quiet_on)
        refine wpQuiet_nil ?_
        rintro w1 ⟨pz, rfl⟩
        have BG := below_regrown W9 pz.d pz.os
        have R10 : Hid (RbI w (grow (redrawn W9 pz.d) pz.os) b4 b5 b7 b8 CC CD (S.byts F) (S.byts F)) := RI9.out.keep BG
        generalize grow (redrawn W9 pz.d) pz.os = V0 at *
        clear BG RI9 HASA HASB
        have BV : Hid (Below w.heap.size w V0) := R10.out.1
        have r7 := R10.out.2.1.2.2
        have r8 := R10.out.2.2.1
        clear R10
        go_wp2_with first
          | (refine wpList_load_midT rfl 28 _ rfl b7 0 rfl (S.byts F) _ r7 Tryd.underlying28 rfl (by rw [LB.out.1]; exact size_bl) ?_)
          | (refine wpList_load_midT rfl 28 _ rfl b8 0 rfl (S.byts F) _ r8 Tryd.underlying28 rfl (by rw [LB.out.1]; exact size_bl) ?_)
          | ((with_reducible refine wpList_buildR (ty := 28) _ bz ?_ ?_); rfl; simp only [Act.put, List.setIfInBounds_toArray, List.set_cons_succ, List.set_cons_zero])
          | ((with_reducible refine wpList_buildR (ty := 33) _ bl ?_ ?_); rfl; simp only [Act.put, List.setIfInBounds_toArray, List.set_cons_succ, List.set_cons_zero])
          | (go_at_call 4; refine (BN.out _ BV.out).mono ?_; rintro e V1 ⟨rfl, hb⟩; replace BV : Hid (Below w.heap.size w V1) := BV.out.trans (hb.mono BV.out.size); clear hb r7 r8 BN)
          | (refine wpList_build_oneR rfl Tryd.underlying22 rI_g (by decide) (by decide) rfl rfl CZ.out ?_; refine wpList_worldA (fun U => Below V1.heap.size V1 U ∧ U.rangeAt V1.heap.size 0 cz) ⟨(Below.refl _ _).alloc (Nat.le_refl _) _, rows_one⟩ ?_; rintro V2 ⟨B2, q2⟩)
          | (go_at_call 4; refine (B1.out V2 V1.heap.size (BV.out.trans (B2.mono BV.out.size)) q2).mono ?_; rintro e V3 ⟨rfl, hb⟩; replace BV : Hid (Below w.heap.size w V3) := (BV.out.trans (B2.mono BV.out.size)).trans (hb.mono (BV.out.trans (B2.mono BV.out.size)).size); clear hb q2 B2)
        simp [bodyPost, results, Tryd.results3, go_sem]
        exact BV.out
      · have h1 : (0 : Int) < (FL : Int) := by omega
        have RN : Hid (∀ d os, (grow (redrawn W9 d) os).rangeAt b7 0 (S.byts F)) := fun d os => range_keep RI9.out.2.1.2.2 (below_regrown W9 d os)
        replace HASA : Hid (_) := HASA.out h0
        replace HASB : Hid (_) := HASB.out h0
        refine wp_region_quiet_below (by kernel_rfl) (by kernel_rfl) ?_
        repeat
          first
            | go_big_quiet_skip
            | (go_big_quiet_want; refine S.quiet_load_mid 28 _ rfl b7 0 rfl (S.byts F) _ (fun W' ⟨p, e⟩ => by subst e; exact RN.out p.d p.os) Tryd.underlying28 rfl (by rw [LB.out.1]; exact size_bl) ?_; simp only [Act.put, List.setIfInBounds_toArray, List.set_cons_zero, List.set_cons_succ]; go_big_quiet_on)
            | (go_big_quiet_want; go_big_quiet_op; go_big_quiet_on)
            | (go_big_quiet_want
               go_big_quiet_op
               apply Exists.intro
               refine ⟨fun p => ?_, ?_⟩
               · (go_at_call 6; with_reducible exact Calls.regrown_of (HASA.out p.d p.os))
               go_big_quiet_on)
            | (go_big_quiet_want
               go_big_quiet_op
               apply Exists.intro
               refine ⟨fun p => ?_, ?_⟩
               · (go_at_call 6; with_reducible exact Calls.regrown_of (HASB.out p.d p.os))
               go_big_quiet_on)
        refine wpQuiet_nil ?_
        rintro w1 ⟨pz, rfl⟩
        clear RN h1 h0
        have BG := below_regrown W9 pz.d pz.os
        have R10 : Hid (RbI w (grow (redrawn W9 pz.d) pz.os) b4 b5 b7 b8 CC CD (S.byts F) (S.byts F)) := RI9.out.keep BG
        generalize grow (redrawn W9 pz.d) pz.os = V0 at *
        clear BG RI9 HASA HASB
        have BV : Hid (Below w.heap.size w V0) := R10.out.1
        have r7 := R10.out.2.1.2.2
        have r8 := R10.out.2.2.1
        clear R10
        go_wp2_with first
          | (refine wpList_load_midT rfl 28 _ rfl b7 0 rfl (S.byts F) _ r7 Tryd.underlying28 rfl (by rw [LB.out.1]; exact size_bl) ?_)
          | (refine wpList_load_midT rfl 28 _ rfl b8 0 rfl (S.byts F) _ r8 Tryd.underlying28 rfl (by rw [LB.out.1]; exact size_bl) ?_)
          | ((with_reducible refine wpList_buildR (ty := 28) _ bz ?_ ?_); rfl; simp only [Act.put, List.setIfInBounds_toArray, List.set_cons_succ, List.set_cons_zero])
          | ((with_reducible refine wpList_buildR (ty := 33) _ bl ?_ ?_); rfl; simp only [Act.put, List.setIfInBounds_toArray, List.set_cons_succ, List.set_cons_zero])
          | (go_at_call 4; refine (BN.out _ BV.out).mono ?_; rintro e V1 ⟨rfl, hb⟩; replace BV : Hid (Below w.heap.size w V1) := BV.out.trans (hb.mono BV.out.size); clear hb r7 r8 BN)
          | (refine wpList_build_oneR rfl Tryd.underlying22 rI_g (by decide) (by decide) rfl rfl CZ.out ?_; refine wpList_worldA (fun U => Below V1.heap.size V1 U ∧ U.rangeAt V1.heap.size 0 cz) ⟨(Below.refl _ _).alloc (Nat.le_refl _) _, rows_one⟩ ?_; rintro V2 ⟨B2, q2⟩)
          | (go_at_call 4; refine (B1.out V2 V1.heap.size (BV.out.trans (B2.mono BV.out.size)) q2).mono ?_; rintro e V3 ⟨rfl, hb⟩; replace BV : Hid (Below w.heap.size w V3) := (BV.out.trans (B2.mono BV.out.size)).trans (hb.mono (BV.out.trans (B2.mono BV.out.size)).size); clear hb q2 B2)
        simp [bodyPost, results, Tryd.results3, go_sem]
        exact BV.out
    | succ p =>
      have e1 : (((p + 1 : Nat) : Int) - 1) = (p : Int) := by omega
      rw [e1]
      clear e1
      have p1 : (p : Int) < (n : Int) := by omega
      have p0 : (0 : Int) ≤ (p : Int) := by omega
      obtain rfl : a = some ⟨b, o, none⟩ := by
        rcases AA.out with e | e
        · have := EN.out; rw [e] at this; simp at this; omega
        · exact e
      obtain ⟨gl, r1⟩ := (GR.out _ RI.out.1).1.2.2 p (by rw [EN.out]; omega)
      have ML : Hid (ls.getD p zLg ∈ ls) := by show _ ∈ _; rw [List.getD, List.getElem?_eq_getElem (by rw [EN.out]; omega)]; exact List.getElem_mem _
      have DS : Hid (ls.drop p = ls.getD p zLg :: ls.drop (p + 1)) := by show _ = _; rw [List.drop_eq_getElem_cons (by rw [EN.out]; omega), List.getD, List.getElem?_eq_getElem (by rw [EN.out]; omega)]; rfl
      have L9 := HT.out.1 p (by rw [EN.out]; omega)
      have GL : Hid (∀ V, Below w.heap.size w V → LgG V (ls.getD p zLg)) := fun V bV => ((GR.out V bV).1.2.2 p (by rw [EN.out]; omega)).1
      generalize ls.getD p zLg = l at *
      have CL : Hid ((lgC l).length = 22 ∧ ∀ u ∈ lgC l, u.oneCell' = true) := ⟨lgC_len gl.adr.1, lgC_one _⟩
      obtain ⟨cs, hcs⟩ : ∃ cs, cs = lgC l := ⟨_, rfl⟩
      have ECS : Hid (cs = lgC l) := hcs
      rw [← hcs] at r1 CL
      clear hcs gl hq
      go_wp2_with first
        | (refine wpList_load_midT rfl 33 _ rfl b (o + p * 22) rfl cs _ r1 Tryd.underlying33 rfl (by rw [CL.out.1]; exact size_lg) ?_)
        | (refine wpList_allocT rfl 33 rfl (some 10) rfl 22 72 rI_g ?_; intro b10 W5 h5 B5 t5)
        | (refine wpList_storeT rfl 33 _ _ rfl b10 cs rfl rfl (by rw [CL.out.1]; exact t5) (by rw [CL.out.1]; exact size_lg) CL.out.2 ?_; intro W6 u9 q6 t9; have L6 : Hid (b10 = wr.heap.size ∧ W6.heap.size = b10 + 1 ∧ b8 < b10) := (show _ ∧ _ ∧ _ by have := h5.out; have := RI.out.2.2.2.2; rw [u9.size]; omega); replace RI : Hid (RbI w W6 b4 b5 b7 b8 CC CD N (S.byts (blL (ls.drop (p + 1))))) := RI.out.keep (u9.below (by have := h5.out; omega) B5); clear u9 B5 t5 h5)
        | (refine wpList_store1T rfl 31 _ _ rfl b10 21 (.slice (some ⟨W6.heap.size, 0, none⟩) 1 1) cs rfl rfl rfl rfl size_1b (range_keep q6 ((Below.refl _ _).alloc (Nat.le_refl _) _)) (there_keepT t9 (by have := L6.out; omega) ((Below.refl _ _).alloc (Nat.le_refl _) _)) (by rw [CL.out.1]; decide) ?_; intro W8 u9 q8 t10)
      have R8 : Hid (RbI w W8 b4 b5 b7 b8 CC CD N (S.byts (blL (ls.drop (p + 1))))) := (RI.out.keep ((Below.refl _ _).alloc (Nat.le_refl _) _)).other u9 L6.out.2.2
      have gd : W8.cell? ⟨W6.heap.size, 0, none⟩ = some (.int .u8 ((p : Int) % 256)) := (heap_cellR (u9.block W6.heap.size (by have := L6.out; omega))).trans (by simp)
      have L8 : Hid (W8.heap.size = b10 + 2) := (show _ = _ by rw [u9.size, World.size_alloc]; have := L6.out; omega)
      have ha := (GL.out _ R8.out.1).adr
      rw [ECS.out, lgC_set ha.1 W6.heap.size 1 1 [(p : Int) % 256] rfl] at q8
      obtain ⟨l', hl'⟩ : ∃ l', l' = ({ l with Da := some ⟨W6.heap.size, 0, none⟩, Db := W6.heap.size, Do := 0, Dc := 1, Dl := [(p : Int) % 256] } : Lg) := ⟨_, rfl⟩
      have EL : Hid (txL l' = txL l ∧ l'.Tl = l.Tl ∧ l'.adr = l.adr ∧ l'.Ta = l.Ta ∧ l'.Tc = l.Tc ∧ l'.Tb = l.Tb ∧ l'.To = l.To) := by rw [hl']; exact ⟨rfl, rfl, rfl, rfl, rfl, rfl, rfl⟩
      have LG : Hid (∀ V, Below W8.heap.size W8 V → LgG V l') := fun V bV => by
        have g := GL.out V (R8.out.1.trans (bV.mono R8.out.1.size))
        rw [hl']
        refine ⟨g.adr, g.T, ⟨⟨Nat.le_refl _, fun e => by cases e⟩, .inr rfl, fun i hi => ?_, fun x hx => ?_⟩⟩
        · have : i = 0 := by simp at hi; omega
          subst this
          exact cell_keep bV gd
        · obtain rfl := List.mem_singleton.1 hx
          omega
      rw [← hl'] at q8
      have CL' : Hid ((lgC l').length = 22 ∧ ∀ u ∈ lgC l', u.oneCell' = true) := ⟨lgC_len (by rw [EL.out.2.2.1]; exact ha.1), lgC_one _⟩
      obtain ⟨cs', hcs⟩ : ∃ cs, cs = lgC l' := ⟨_, rfl⟩
      have ECS' : Hid (cs' = lgC l') := hcs
      rw [← hcs] at q8 CL'
      have Q8 : Hid (W8.rangeAt b10 0 cs') := q8
      have NE9 : Hid (b8 < b10) := L6.out.2.2
      clear hcs hl' gd t10 u9 ha q8 t9 q6 RI L6 r1
      obtain ⟨Fd, hFd⟩ : ∃ F, F = blL (ls.drop (p + 1)) := ⟨_, rfl⟩
      have EF : Hid (Fd = blL (ls.drop (p + 1)) ∧ Fd.length = 256) := ⟨hFd, by rw [hFd]; exact blL_len _⟩
      rw [← hFd] at R8
      clear hFd
      obtain ⟨MB, hMB⟩ : ∃ M, M = S.byts Fd := ⟨_, rfl⟩
      have EMB : Hid (MB = S.byts Fd ∧ MB.length = 256) := ⟨hMB, by rw [hMB, S.byts_len]; exact EF.out.2⟩
      rw [← hMB] at R8
      clear hMB
      refine wp_region_bar 6 (S := fun w' => Below W8.heap.size W8 w') (by kernel_rfl) ((Below.refl _ _).drew) (fun hHeld => ?_)
      refine wpAnyB_takeD (i := 0) (oi := _) (v := .agg MB.toArray) 32 rfl rfl (by kernel_rfl) (by kernel_rfl) (by kernel_rfl) (by kernel_rfl) (fun _ _ _ h => h) (yieldsIf_load_mid (by kernel_rfl) _ _ rfl b8 0 rfl MB _ (fun W h => range_keep R8.out.2.2.1 h) Tryd.underlying28 rfl (by rw [EMB.out.2]; exact size_bl)) (by assumption) ?_
      simp only [Act.put, List.setIfInBounds_toArray, List.set_cons_succ, List.set_cons_zero]
      refine wpAnyB_takeD (i := 1) (oi := _) (v := .agg cs'.toArray) 33 rfl rfl (by kernel_rfl) (by kernel_rfl) (by kernel_rfl) (by kernel_rfl) (fun _ _ _ h => h) (yieldsIf_load_mid (by kernel_rfl) _ _ rfl b10 0 rfl cs' _ (fun W h => range_keep Q8.out h) Tryd.underlying33 rfl (by rw [CL'.out.1]; exact size_lg)) (by assumption) ?_
      simp only [Act.put, List.setIfInBounds_toArray, List.set_cons_succ, List.set_cons_zero]
      refine wpAnyB_one (i := 2) (by kernel_rfl) (by kernel_rfl) rfl (fun K hK => ?_)
      rw [if_pos (by kernel_rfl)]
      refine wp_build_oneR Tryd.underlying22 rI_g (by decide) (by decide) rfl rfl CL'.out.1 ?_
      have B1 : Below W8.heap.size W8 ((W8.drew).alloc (.cells cs'.toArray 33)) := ((Below.refl _ _).drew).alloc (Nat.le_refl _) _
      have r1 : ((W8.drew).alloc (.cells cs'.toArray 33)).rangeAt W8.heap.size 0 cs' := rows_one (W := W8.drew)
      refine hK.out _ _ B1 (fun hHeld => ?_)
      clear hK K
      change wpAnyB _ _ _ _ _ _ _ _ (Act.put _ (some 34) (.slice (some ⟨W8.heap.size, 0, none⟩) 1 1)) _
      simp only [Act.put, List.setIfInBounds_toArray, List.set_cons_succ, List.set_cons_zero]
      generalize (W8.drew).alloc (.cells cs'.toArray 33) = V1 at *
      refine wpAnyB_one (i := 3) (by kernel_rfl) (by kernel_rfl) rfl (fun K hK => ?_)
      rw [if_pos (by kernel_rfl)]
      go_simp
      refine (bloomOf_any (ls := [l']) (a := some ⟨W8.heap.size, 0, none⟩) (b := W8.heap.size) (o := 0) (c := 1) (by show 1 < 1000000000; decide) (fun i hi => by
        have : i = 0 := by simp at hi; omega
        subst this
        show l'.Tl.length < _
        rw [EL.out.2.1]; exact L9) V1 (lsG_one (LG.out V1 B1) (by rw [← ECS'.out]; exact r1)) (GR.out V1 (R8.out.1.trans (B1.mono R8.out.1.size))).2).mono ?_
      rintro e V2 ⟨rfl, hb⟩
      have B2 : Below W8.heap.size W8 V2 := B1.trans (hb.mono B1.size)
      refine hK.out _ _ B2 (fun hHeld => ?_)
      clear hK K hb
      rw [blL_one EL.out.1]
      have em := EMB.out.1
      subst em
      have lf : ∀ F ∈ [Fd, blL [l]], F.length = 256 := fun F hF => by
        simp only [List.mem_cons, List.not_mem_nil, or_false] at hF
        rcases hF with rfl | rfl
        · exact EF.out.2
        · exact blL_len _
      refine wpAnyB_one (i := 4) (by kernel_rfl) (by kernel_rfl) rfl (fun K hK => ?_)
      rw [if_pos (by kernel_rfl)]
      refine S.wp_build_blooms 2 _ rfl [Fd, blL [l]] lf rfl (by decide) (by decide) (by simp [Act.eval, List.zipIdx]) ?_
      have B3 : Below W8.heap.size W8 (V2.alloc (.cells (S.fcells [Fd, blL [l]]) 28)) := B2.alloc B2.size _
      have fl := S.fls_new (W := V2) [Fd, blL [l]] lf
      refine hK.out _ _ B3 (fun hHeld => ?_)
      clear hK K
      change wpAnyB _ _ _ _ _ _ _ _ (Act.put _ (some 36) (.slice (some ⟨V2.heap.size, 0, none⟩) 2 2)) _
      simp only [Act.put, List.setIfInBounds_toArray, List.set_cons_succ, List.set_cons_zero]
      generalize V2.alloc (.cells (S.fcells [Fd, blL [l]]) 28) = V3 at *
      refine wpAnyB_one (i := 5) (by kernel_rfl) (by kernel_rfl) rfl (fun K hK => ?_)
      rw [if_pos (by kernel_rfl)]
      go_simp
      refine (S.union_any (FS := [Fd, blL [l]]) (a := some ⟨V2.heap.size, 0, none⟩) (bp := V2.heap.size) (op := 0) (cp := 2) (by show 2 < 1099511627776; decide) (.inr rfl) V3 fl).mono ?_
      rintro e V4 ⟨rfl, hb⟩
      have B4 : Below W8.heap.size W8 V4 := B3.trans (hb.mono B3.size)
      refine hK.out _ _ B4 (fun hHeld => ?_)
      clear hK K hb
      rw [S.orA_two EF.out.2]
      obtain ⟨Fn, hFn⟩ : ∃ F, F = S.orF Fd (blL [l]) := ⟨_, rfl⟩
      have EFn : Hid (Fn = blL (ls.drop p)) := by
        show _ = _
        rw [hFn, EF.out.1, bl_or, DS.out]
        refine bl_same fun X => ⟨?_, ?_⟩
        · rintro ⟨k, hk, hX⟩
          rcases List.mem_append.1 hk with h | h
          · exact ⟨k, List.mem_cons_of_mem _ h, hX⟩
          · obtain rfl := List.mem_singleton.1 h; exact ⟨k, List.mem_cons_self, hX⟩
        · rintro ⟨k, hk, hX⟩
          rcases List.mem_cons.1 hk with h | h
          · exact ⟨k, List.mem_append_right _ (by rw [h]; exact List.mem_singleton.2 rfl), hX⟩
          · exact ⟨k, List.mem_append_left _ h, hX⟩
      have LFn : Hid (Fn.length = 256) := by show _ = _; rw [EFn.out]; exact blL_len _
      rw [← hFn]
      clear hFn
      have R4 := R8.out.keep B4
      refine wpAnyB_bar (by kernel_rfl) rfl (fun K hK => ?_)
      rw [if_pos (by kernel_rfl)]
      have lb : (S.byts Fn).length = 256 := by rw [S.byts_len]; exact LFn.out
      refine wp_store_mid 28 _ _ rfl b8 0 (S.byts Fn).toArray rfl rfl (by show V4.there b8 0 (S.byts Fn).toArray.size; rw [List.size_toArray, lb]; exact R4.2.2.2.1) (by rw [List.size_toArray, lb]; exact size_bl) (all_oneCell_toArray (byts_one _)) ?_
      refine hK.out _ _ ?_
      clear hK K
      refine wpAny_done (by kernel_rfl) ?_ _
      have ss := store_sets (V := V4) (b := b8) (L := S.byts Fn) (by rw [lb]; exact R4.2.2.2.1)
      change Exit.then _ _ _ _ (V4.setCells b8 0 (S.byts Fn))
      obtain ⟨V5, hV5⟩ : ∃ V, V = V4.setCells b8 0 (S.byts Fn) := ⟨_, rfl⟩
      rw [← hV5] at ss ⊢
      have R5 : Hid (RbI w V5 b4 b5 b7 b8 CC CD N (S.byts Fn)) := R4.store ss.1 ss.2.1 (by rw [← lb]; exact ss.2.2)
      have Q5 : Hid (V5.rangeAt b10 0 (lgC l')) := by rw [← ECS'.out]; exact range_same (range_keep Q8.out B4) (ss.1.block _ (by have := NE9.out; omega))
      clear hV5 ss lb R4 B4 B3 B2 fl lf r1 B1 Q8 R8
      have HAx : Hid (∀ X nX V bX oX, X ∈ txL l → X.length = nX → nX < 1000000000 → Bys X → Below w.heap.size w V → V.rangeAt bX oX (hC X) → Calls Tryd.prog 6 #[.agg N.toArray, .slice (some ⟨bX, oX, none⟩) nX nX] V fun e w' => e = .returned (.bool true) ∧ Below V.heap.size V w') := fun X nX V bX oX h1 h2 h3 h4 h5 h6 => by
        have h := has_I (F := blL ls) (c := nX) (blL_len ls) h2 h3 h4 (Nat.le_refl _) h6 (GR.out V h5).2
        rw [has_bl ML.out h1, ← EN9.out] at h
        exact h
      have ga := GL.out _ R5.out.1
      have HA : Hid (∀ d os, Calls Tryd.prog 6 #[.agg N.toArray, .slice (some ⟨b10, 0, none⟩) 20 20] (grow (redrawn V5 d) os) fun e w' => e = .returned (.bool true) ∧ Below (grow (redrawn V5 d) os).heap.size (grow (redrawn V5 d) os) w') := fun d os => HAx.out l.adr 20 _ b10 0 (by simp [txL]) ga.adr.1 (by decide) ga.adr.2 (R5.out.1.trans ((below_regrown V5 d os).mono R5.out.1.size)) (range_keep (by have := (lg_parts (l := l') (by rw [EL.out.2.2.1]; exact ga.adr.1) Q5.out).1; rw [EL.out.2.2.1] at this; exact this) (below_regrown V5 d os))
      have RN : Hid (∀ d os, (grow (redrawn V5 d) os).rangeAt b7 0 N) := fun d os => range_keep R5.out.2.1.2.2 (below_regrown V5 d os)
      have c20 : V5.cell? ⟨b10, 20, none⟩ = some (.slice l.Ta l.Tl.length l.Tc) := by
        have := (lg_parts (l := l') (by rw [EL.out.2.2.1]; exact ga.adr.1) Q5.out).2.1
        rw [EL.out.2.1, EL.out.2.2.2.1, EL.out.2.2.2.2.1] at this
        simpa using this
      clear ga Q5 
      go_wp2_with fail
      refine wp_region_quiet_below (by kernel_rfl) (by kernel_rfl) ?_
      repeat
        first
          | go_big_quiet_skip
          | (go_big_quiet_want; refine S.quiet_load_mid 28 _ rfl b7 0 rfl N _ (fun W' ⟨p, e⟩ => by subst e; exact RN.out p.d p.os) Tryd.underlying28 rfl (by rw [LB.out.1]; exact size_bl) ?_; simp only [Act.put, List.setIfInBounds_toArray, List.set_cons_zero, List.set_cons_succ]; go_big_quiet_on)
          | (go_big_quiet_want; go_big_quiet_op; go_big_quiet_on)
          | (go_big_quiet_want
             go_big_quiet_op
             apply Exists.intro
             refine ⟨fun p => ?_, ?_⟩
             · (go_at_call 6; with_reducible exact Calls.regrown_of (HA.out p.d p.os))
             go_big_quiet_on)
      refine wpQuiet_nil ?_
      rintro w1 ⟨pz, rfl⟩
      have BG := below_regrown V5 pz.d pz.os
      have R6 : Hid (RbI w (grow (redrawn V5 pz.d) pz.os) b4 b5 b7 b8 CC CD N (S.byts Fn)) := R5.out.keep BG
      replace c20 := cell_keep BG c20
      generalize grow (redrawn V5 pz.d) pz.os = V6 at *
      clear BG HA RN R5 V5
      obtain ⟨m, em⟩ : ∃ m, m = l.Tl.length := ⟨_, rfl⟩
      have EM : Hid (l.Tl.length = m) := em.symm
      have m1 : (m : Int) < 1000000000 := by omega
      rw [← em] at c20
      clear em
      go_wp2_with fail
      go_loopg [11] m (fun k iv wv => ∃ jj : Nat, k = m - jj ∧ jj ≤ m ∧ iv = .int .i64 (jj : Int) ∧ Below V6.heap.size V6 wv)
      case atStart => exact ⟨0, rfl, Nat.zero_le _, rfl, Below.refl _ _⟩
      case round =>
        obtain ⟨jj, hk2, hj, rfl, B⟩ := hrel
        have HK2 : Hid (gk = m - jj) := hk2
        clear hk2
        have c20r := cell_keep B c20
        by_cases h9 : jj = m
        · subst h9
          have RX : Hid (RbI w wr b4 b5 b7 b8 CC CD N (S.byts (blL (ls.drop p)))) := by have h := R6.out.keep B; rw [EFn.out] at h; exact h
          clear HK2 B hj c20
          go_wp2
          go_roundg p
          case measure => have := HK.out; omega
          case rel => exact ⟨p, rfl, by omega, by go_num, RX.out⟩
        · have hlj : jj < m := by omega
          have hlj' : (jj : Int) < (m : Int) := by omega
          have BW := R6.out.1.trans (B.mono R6.out.1.size)
          have gt := (GL.out _ BW).T
          have ea : l.Ta = some ⟨l.Tb, l.To, none⟩ := by
            rcases gt.2.1 with e | e
            · have := EM.out; rw [e] at this; simp at this; omega
            · exact e
          obtain ⟨XH, r1⟩ := gt.2.2 jj (by rw [EM.out]; exact hlj)
          have MX : Hid (l.Tl.getD jj [] ∈ txL l) := by
            show _ ∈ _
            unfold txL
            rw [List.getD, List.getElem?_eq_getElem (by rw [EM.out]; exact hlj)]
            exact List.mem_cons_of_mem _ (List.getElem_mem _)
          rw [ea] at c20r
          generalize l.Tl.getD jj [] = X at *
          have XL2 : Hid (X.length = 32 ∧ Bys X) := XH
          obtain ⟨XC, hXC⟩ : ∃ C, C = hC X := ⟨_, rfl⟩
          have EXC : Hid (XC = hC X) := hXC
          have CL2 : Hid (XC.length = 32 ∧ ∀ u ∈ XC, u.oneCell' = true) := by rw [hXC]; exact ⟨by rw [hC_len]; exact XH.1, hC_one _⟩
          rw [← hXC] at r1
          clear hXC XH gt h9 hj ea
          go_wp2_with first
            | (refine wpList_load_midT rfl 26 _ rfl l.Tb (l.To + jj * 32) rfl XC _ r1 Tryd.underlying26 rfl (by rw [CL2.out.1]; exact size_hs) ?_)
            | (refine wpList_allocT rfl 26 rfl (some 12) rfl 32 32 rI_h ?_; intro b12 W7 h7 B7 t7)
            | (refine wpList_storeT rfl 26 _ _ rfl b12 XC rfl rfl (by rw [CL2.out.1]; exact t7) (by rw [CL2.out.1]; exact size_hs) CL2.out.2 ?_; intro W8 u9 q6 t9)
          have B16 : Below wr.heap.size wr W8 := u9.below (by have := h7.out; omega) B7
          replace B : Below V6.heap.size V6 W8 := B.trans (B16.mono B.size)
          have q5 : W8.rangeAt b12 0 (hC X) := by rw [← EXC.out]; exact q6
          have R7 := R6.out.keep B
          have HA : Hid (∀ d os, Calls Tryd.prog 6 #[.agg N.toArray, .slice (some ⟨b12, 0, none⟩) 32 32] (grow (redrawn W8 d) os) fun e w' => e = .returned (.bool true) ∧ Below (grow (redrawn W8 d) os).heap.size (grow (redrawn W8 d) os) w') := fun d os => HAx.out X 32 _ b12 0 MX.out XL2.out.1 (by decide) XL2.out.2 (R7.1.trans ((below_regrown W8 d os).mono R7.1.size)) (range_keep q5 (below_regrown W8 d os))
          have RN : Hid (∀ d os, (grow (redrawn W8 d) os).rangeAt b7 0 N) := fun d os => range_keep R7.2.1.2.2 (below_regrown W8 d os)
          have KB : Hid (∀ d os, Below V6.heap.size V6 (grow (redrawn W8 d) os)) := fun d os => B.trans ((below_regrown W8 d os).mono B.size)
          clear q6 t9 u9 t7 B7 h7 r1 B16 q5 R7 B BW c20r
          simp only [Act.put, List.setIfInBounds_toArray, List.set_cons_succ, List.set_cons_zero]
          refine wp_region_quiet_below (by kernel_rfl) (by kernel_rfl) ?_
          repeat
            first
              | go_big_quiet_skip
              | (go_big_quiet_want; refine S.quiet_load_mid 28 _ rfl b7 0 rfl N _ (fun W' ⟨p, e⟩ => by subst e; exact RN.out p.d p.os) Tryd.underlying28 rfl (by rw [LB.out.1]; exact size_bl) ?_; simp only [Act.put, List.setIfInBounds_toArray, List.set_cons_zero, List.set_cons_succ]; go_big_quiet_on)
              | (go_big_quiet_want; go_big_quiet_op; go_big_quiet_on)
              | (go_big_quiet_want
                 go_big_quiet_op
                 apply Exists.intro
                 refine ⟨fun p => ?_, ?_⟩
                 · (go_at_call 6; with_reducible exact Calls.regrown_of (HA.out p.d p.os))
                 go_big_quiet_on)
          refine wpQuiet_nil ?_
          rintro w1 ⟨pz, rfl⟩
          have B := KB.out pz.d pz.os
          generalize grow (redrawn W8 pz.d) pz.os = W9 at *
          clear KB HA RN
          go_wp2
          go_roundg (m - (jj + 1))
          case measure => have := HK2.out; omega
          case rel => exact ⟨jj + 1, rfl, hlj, by go_num, B⟩
end Go.Proofs.YtcjabligkeaafaaDoor.tq
