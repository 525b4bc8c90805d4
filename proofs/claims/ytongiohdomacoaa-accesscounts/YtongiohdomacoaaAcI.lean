import Derived.Test.YtongiohdomacoaaAcH
/- Layer 14: the statement's twin. -/
namespace Go.Proofs.Ytongiohdomacoaa
open Go.RowKit Go.Sort

theorem there_keepE {W W' : World} {b o n : Nat} (h : W.there b o n) (hb : Below W.heap.size W W') (hl : b < W.heap.size) : W'.there b o n := fun j hj => by
  obtain ⟨h1, h2⟩ := h j hj
  refine ⟨?_, by rw [hb.frozen (p := ⟨b, o + j, none⟩) hl]; exact h2⟩
  obtain ⟨v, hv⟩ := Option.isSome_iff_exists.1 h1
  rw [cell_keep hb hv]; rfl
theorem there_inE {W : World} {b o n o' n' : Nat} (h : W.there b o n) (h1 : o ≤ o') (h2 : o' + n' ≤ o + n) : W.there b o' n' := fun j hj => by
  have := h (o' - o + j) (by omega)
  rw [show o + (o' - o + j) = o' + j by omega] at this
  exact this
theorem range_blockE {W : World} {g : Nat} {cs : Array Value} {t : TypeId} (h : W.heap[g]? = some (.cells cs t (0, 0))) : W.there g 0 cs.size := fun j hj => ⟨by
  rw [Nat.zero_add, cell_of_row W g j _ _ _ h]; simp [hj], by rw [Nat.zero_add]; exact frozen_of_row W g j _ _ h⟩
/-- A twin under way. -/
def TwP (W : World) (g : Nat) (L : List EE) (V : Nat → Value) (i : Nat) : Prop := W.there g 0 ((L.length + 1) * 21) ∧ g < W.heap.size ∧ ∀ j, j < i → W.rangeAt g (j * 21) (cB (L.getD j zE).A ++ [V j]) ∧ ∃ gj, V j = .slice (some ⟨gj, 0, none⟩) (L.getD j zE).K.length ((L.getD j zE).K.length + 1) ∧ gj ≠ g ∧ W.rangeAt gj 0 (kyF ((L.getD j zE).K ++ [mkH]))
theorem TwP.keep {W W' : World} {g : Nat} {L : List EE} {V : Nat → Value} {i : Nat} (h : TwP W g L V i) (hb : Below W.heap.size W W') : TwP W' g L V i := by
  refine ⟨there_keepE h.1 hb h.2.1, Nat.lt_of_lt_of_le h.2.1 hb.size, fun j hj => ?_⟩
  obtain ⟨h1, gj, h2, h3, h4⟩ := h.2.2 j hj
  exact ⟨rng_keep h1 hb, gj, h2, h3, rng_keep h4 hb⟩
theorem size_setCells (b : Nat) : ∀ (vs : List Value) (o : Nat) (w : World), (w.setCells b o vs).heap.size = w.heap.size
  | [], _, _ => rfl
  | v :: r, o, w => by
    rw [World.setCells, size_setCells b r]
    simp [World.setCell]
theorem TwP.step {W : World} {g : Nat} {L : List EE} {V : Nat → Value} {i gk : Nat} (h : TwP W g L V i) (hw : WfE L) (hi : i < L.length) (hgk : gk ≠ g) (rk : W.rangeAt gk 0 (kyF ((L.getD i zE).K ++ [mkH]))) :
    TwP (W.setCells g (i * 21) (cB (L.getD i zE).A ++ [.slice (some ⟨gk, 0, none⟩) (L.getD i zE).K.length ((L.getD i zE).K.length + 1)])) g L (fun j => if j = i then .slice (some ⟨gk, 0, none⟩) (L.getD i zE).K.length ((L.getD i zE).K.length + 1) else V j) (i + 1) := by
  have l21 : ∀ v : Value, (cB (L.getD i zE).A ++ [v]).length = 21 := fun v => by rw [List.length_append, cB_len, (hw i hi).1]; rfl
  refine ⟨World.there_setCells h.1 _ _ _, by rw [size_setCells]; exact h.2.1, fun j hj => ?_⟩
  by_cases e : j = i
  · subst e
    simp only [↓reduceIte]
    refine ⟨World.rangeAt_setCells_same _ _ _ _ (there_inE h.1 (Nat.zero_le _) (by rw [l21]; omega)), gk, rfl, hgk, World.rangeAt_setCells_apart rk _ _ _ (.inl hgk)⟩
  · simp only [e, ↓reduceIte]
    obtain ⟨h1, gj, h2, h3, h4⟩ := h.2.2 j (by omega)
    refine ⟨World.rangeAt_setCells_apart h1 _ _ _ (.inr (.inl ?_)), gj, h2, h3, World.rangeAt_setCells_apart h4 _ _ _ (.inl h3)⟩
    rw [List.length_append, cB_len, (hw j (by omega)).1]
    show j * 21 + 21 ≤ _
    omega
theorem TwP.done {W : World} {g : Nat} {L : List EE} {V : Nat → Value} (h : TwP W g L V L.length) (hw : WfE L) : Twn (W.setCells g (L.length * 21) [Value.int .u8 195, .int .u8 0, .int .u8 0, .int .u8 0, .int .u8 0, .int .u8 0, .int .u8 0, .int .u8 0, .int .u8 0, .int .u8 0, .int .u8 0, .int .u8 0, .int .u8 0, .int .u8 0, .int .u8 0, .int .u8 0, .int .u8 0, .int .u8 0, .int .u8 0, .int .u8 0, .slice none 0 0]) g L V := by
  have l21 : ∀ i, i < L.length → ∀ v : Value, (cB (L.getD i zE).A ++ [v]).length = 21 := fun i hi v => by rw [List.length_append, cB_len, (hw i hi).1]; rfl
  have rs : ∀ i, i < L.length → (W.setCells g (L.length * 21) [Value.int .u8 195, .int .u8 0, .int .u8 0, .int .u8 0, .int .u8 0, .int .u8 0, .int .u8 0, .int .u8 0, .int .u8 0, .int .u8 0, .int .u8 0, .int .u8 0, .int .u8 0, .int .u8 0, .int .u8 0, .int .u8 0, .int .u8 0, .int .u8 0, .int .u8 0, .int .u8 0, .slice none 0 0]).rangeAt g (i * 21) (cB (L.getD i zE).A ++ [V i]) := fun i hi => World.rangeAt_setCells_apart (h.2.2 i hi).1 _ _ _ (.inr (.inl (by rw [l21 i hi]; omega)))
  have rk : ∀ i, i < L.length → ∃ gi, V i = .slice (some ⟨gi, 0, none⟩) (L.getD i zE).K.length ((L.getD i zE).K.length + 1) ∧ (W.setCells g (L.length * 21) [Value.int .u8 195, .int .u8 0, .int .u8 0, .int .u8 0, .int .u8 0, .int .u8 0, .int .u8 0, .int .u8 0, .int .u8 0, .int .u8 0, .int .u8 0, .int .u8 0, .int .u8 0, .int .u8 0, .int .u8 0, .int .u8 0, .int .u8 0, .int .u8 0, .int .u8 0, .int .u8 0, .slice none 0 0]).rangeAt gi 0 (kyF ((L.getD i zE).K ++ [mkH])) := fun i hi => by
    obtain ⟨_, gj, h2, h3, h4⟩ := h.2.2 i hi
    exact ⟨gj, h2, World.rangeAt_setCells_apart h4 _ _ _ (.inl h3)⟩
  refine ⟨fun i hi => ⟨by rw [Nat.zero_add]; exact rs i hi, ?_⟩, ?_, rk⟩
  · obtain ⟨gi, h1, h2⟩ := rk i hi
    refine ⟨_, gi, 0, _, h1, by omega, .inr rfl, fun j v hv => h2 j v ?_⟩
    rw [kyF_app, List.getElem?_append_left (List.getElem?_eq_some_iff.1 hv).1]; exact hv
  · have hs := World.rangeAt_setCells_same W g (L.length * 21) [Value.int .u8 195, .int .u8 0, .int .u8 0, .int .u8 0, .int .u8 0, .int .u8 0, .int .u8 0, .int .u8 0, .int .u8 0, .int .u8 0, .int .u8 0, .int .u8 0, .int .u8 0, .int .u8 0, .int .u8 0, .int .u8 0, .int .u8 0, .int .u8 0, .int .u8 0, .int .u8 0, .slice none 0 0] (there_inE h.1 (Nat.zero_le _) (by show L.length * 21 + 21 ≤ _; omega))
    rw [mkA_c]
    intro j v hv
    exact hs j v (by
      have hj : j < 20 := (List.getElem?_eq_some_iff.1 hv).1
      rw [← hv]
      exact (List.getElem?_append_left (l₁ := [Value.int .u8 195, .int .u8 0, .int .u8 0, .int .u8 0, .int .u8 0, .int .u8 0, .int .u8 0, .int .u8 0, .int .u8 0, .int .u8 0, .int .u8 0, .int .u8 0, .int .u8 0, .int .u8 0, .int .u8 0, .int .u8 0, .int .u8 0, .int .u8 0, .int .u8 0, .int .u8 0]) (l₂ := [Value.slice none 0 0]) hj))
theorem src_keys {K : List (List Int)} {a : Option Addr} {g p : Nat} (ha : K = [] ∨ a = some ⟨g, p, none⟩) : ∃ ad, (a = some ad ∨ (a = none ∧ kyF K = [])) ∧ ∀ W : World, W.rangeAt g p (kyF K) → ∀ j v, (kyF K)[j]? = some v → W.cell? (ad.add j) = some v := by
  rcases ha with h | h
  · subst h
    cases a with
    | none => exact ⟨⟨0, 0, none⟩, .inr ⟨rfl, rfl⟩, fun W _ j v hv => by simp [kyF] at hv⟩
    | some ad => exact ⟨ad, .inl rfl, fun W _ j v hv => by simp [kyF] at hv⟩
  · exact ⟨⟨g, p, none⟩, .inl h, fun W hr j v hv => by rw [Addr.add_mid]; exact hr j v hv⟩
/-- Keys copied, and the mark behind them. -/
theorem marked {W : World} {gk : Nat} {K : List (List Int)} {t : TypeId} (hw : W32 K) (h : W.heap[gk]? = some (.cells (splice (List.replicate ((K.length + 1) * 32) (Value.int .u8 0)) 0 (kyF K)).toArray t (0, 0))) :
    W.there gk (K.length * 32) 32 ∧ (W.setCells gk (K.length * 32) [Value.int .u8 195, .int .u8 0, .int .u8 0, .int .u8 0, .int .u8 0, .int .u8 0, .int .u8 0, .int .u8 0, .int .u8 0, .int .u8 0, .int .u8 0, .int .u8 0, .int .u8 0, .int .u8 0, .int .u8 0, .int .u8 0, .int .u8 0, .int .u8 0, .int .u8 0, .int .u8 0, .int .u8 0, .int .u8 0, .int .u8 0, .int .u8 0, .int .u8 0, .int .u8 0, .int .u8 0, .int .u8 0, .int .u8 0, .int .u8 0, .int .u8 0, .int .u8 0]).rangeAt gk 0 (kyF (K ++ [mkH])) := by
  have hl := kyF_len K hw
  have es : (splice (List.replicate ((K.length + 1) * 32) (Value.int .u8 0)) 0 (kyF K)) = kyF K ++ List.replicate 32 (Value.int .u8 0) := by
    unfold splice
    rw [List.take_zero, List.nil_append, Nat.zero_add, hl, List.drop_replicate, show (K.length + 1) * 32 - K.length * 32 = 32 by omega]
  rw [es] at h
  have th := range_blockE h
  have tk : W.there gk (K.length * 32) 32 := there_inE th (Nat.zero_le _) (by rw [List.size_toArray, List.length_append, hl, List.length_replicate]; omega)
  refine ⟨tk, fun j v hv => ?_⟩
  rw [kyF_app] at hv
  by_cases hj : j < (kyF K).length
  · rw [List.getElem?_append_left hj] at hv
    have r0 : W.rangeAt gk 0 (kyF K) := fun j v hv => by
      rw [Nat.zero_add, cell_of_row W gk j _ _ _ h]
      simpa [List.getElem?_append_left (List.getElem?_eq_some_iff.1 hv).1] using hv
    exact World.rangeAt_setCells_apart r0 gk (K.length * 32) [Value.int .u8 195, .int .u8 0, .int .u8 0, .int .u8 0, .int .u8 0, .int .u8 0, .int .u8 0, .int .u8 0, .int .u8 0, .int .u8 0, .int .u8 0, .int .u8 0, .int .u8 0, .int .u8 0, .int .u8 0, .int .u8 0, .int .u8 0, .int .u8 0, .int .u8 0, .int .u8 0, .int .u8 0, .int .u8 0, .int .u8 0, .int .u8 0, .int .u8 0, .int .u8 0, .int .u8 0, .int .u8 0, .int .u8 0, .int .u8 0, .int .u8 0, .int .u8 0] (.inr (.inl (by rw [hl]; omega))) j v hv
  · rw [List.getElem?_append_right (by omega), hl] at hv
    have h2 := World.rangeAt_setCells_same W gk (K.length * 32) [Value.int .u8 195, .int .u8 0, .int .u8 0, .int .u8 0, .int .u8 0, .int .u8 0, .int .u8 0, .int .u8 0, .int .u8 0, .int .u8 0, .int .u8 0, .int .u8 0, .int .u8 0, .int .u8 0, .int .u8 0, .int .u8 0, .int .u8 0, .int .u8 0, .int .u8 0, .int .u8 0, .int .u8 0, .int .u8 0, .int .u8 0, .int .u8 0, .int .u8 0, .int .u8 0, .int .u8 0, .int .u8 0, .int .u8 0, .int .u8 0, .int .u8 0, .int .u8 0] tk (j - K.length * 32) v (by
      have e : kyF [mkH] = [Value.int .u8 195, .int .u8 0, .int .u8 0, .int .u8 0, .int .u8 0, .int .u8 0, .int .u8 0, .int .u8 0, .int .u8 0, .int .u8 0, .int .u8 0, .int .u8 0, .int .u8 0, .int .u8 0, .int .u8 0, .int .u8 0, .int .u8 0, .int .u8 0, .int .u8 0, .int .u8 0, .int .u8 0, .int .u8 0, .int .u8 0, .int .u8 0, .int .u8 0, .int .u8 0, .int .u8 0, .int .u8 0, .int .u8 0, .int .u8 0, .int .u8 0, .int .u8 0] := by rw [kyF, kyF, List.append_nil, mkH_c]
      rw [← e]; exact hv)
    rw [show K.length * 32 + (j - K.length * 32) = 0 + j by rw [hl] at hj; omega] at h2
    exact h2
set_option maxRecDepth 100000 in
set_option maxHeartbeats 16000000 in
theorem twin_any {a : Option Addr} {b o c : Nat} {L : List EE} {V' : Nat → Value} (hl : L.length ≤ 3000000000000) (hw : WfE L) (hy : KyL L) (ha : AzE a b o L) (w : World) (hE : Es w b o L V') :
    Calls Try.prog 4 #[.slice a L.length c] w fun e w' => ∃ V, e = .returned (.slice (some ⟨w.heap.size, 0, none⟩) L.length (L.length + 1)) ∧ Twn w' w.heap.size L V ∧ Below w.heap.size w w' := by
  have HA : Hid (AzE a b o L ∧ WfE L ∧ KyL L ∧ L.length ≤ 3000000000000) := ⟨ha, hw, hy, hl⟩
  have HI : Hid (∀ W, Below w.heap.size w W → Es W b o L V') := fun W B => hE.keep B
  have n1 : (L.length : Int) ≤ 3000000000000 := by omega
  clear hl hw ha hE hy
  go_enter Try.func4, Try.ntmps4
  go_wp2_with ((refine wpList_make_ens _ rfl _ _ rfl _ _ _ _ (L.length + 1) rfl rfl (by omega) (by omega) (by have := HA.out.2.2.2; omega) ?_); intro cs hcs)
  have hN : (w.alloc (.cells cs 36)).heap[w.heap.size]? = some (.cells cs 36 (0, 0)) := by
    show (w.heap.push _)[w.heap.size]? = _
    simp
  refine wp_world (fun W => Below w.heap.size w W ∧ TwP W w.heap.size L (fun _ => .bool true) 0) ⟨(Below.refl _ _).alloc (Nat.le_refl _) _, by rw [← hcs]; exact range_blockE hN, (Array.getElem?_eq_some_iff.1 hN).1, fun j hj => absurd hj (Nat.not_lt_zero _)⟩ ?_
  clear hN hcs
  rintro W ⟨B, tw⟩
  go_loopg [4] L.length (fun kk iv wr => ∃ (i : Nat) (V : Nat → Value), kk = L.length - i ∧ i ≤ L.length ∧ iv = .int .i64 (i : Int) ∧ Below w.heap.size w wr ∧ TwP wr w.heap.size L V i)
  case atStart => exact ⟨0, _, rfl, Nat.zero_le _, rfl, B, tw⟩
  case round =>
    clear B tw W
    obtain ⟨i, V, hk, hi, rfl, B, tw⟩ := hrel
    have HK : Hid (gk = L.length - i ∧ i ≤ L.length) := ⟨hk, hi⟩
    clear hk
    by_cases h8 : i = L.length
    · subst h8
      have TD : Hid (wr.there w.heap.size (L.length * 21) 21 ∧ Twn (wr.setCells w.heap.size (L.length * 21) [Value.int .u8 195, .int .u8 0, .int .u8 0, .int .u8 0, .int .u8 0, .int .u8 0, .int .u8 0, .int .u8 0, .int .u8 0, .int .u8 0, .int .u8 0, .int .u8 0, .int .u8 0, .int .u8 0, .int .u8 0, .int .u8 0, .int .u8 0, .int .u8 0, .int .u8 0, .int .u8 0, .slice none 0 0]) w.heap.size L V ∧ Below w.heap.size w (wr.setCells w.heap.size (L.length * 21) [Value.int .u8 195, .int .u8 0, .int .u8 0, .int .u8 0, .int .u8 0, .int .u8 0, .int .u8 0, .int .u8 0, .int .u8 0, .int .u8 0, .int .u8 0, .int .u8 0, .int .u8 0, .int .u8 0, .int .u8 0, .int .u8 0, .int .u8 0, .int .u8 0, .int .u8 0, .int .u8 0, .slice none 0 0])) := ⟨there_inE tw.1 (Nat.zero_le _) (by omega), tw.done HA.out.2.1, below_setCells (Nat.le_refl _) _ _ _ B⟩
      clear tw B HK
      go_wp2_with ((refine wpList_store_mid rfl _ _ _ rfl w.heap.size (L.length * 21) #[Value.int .u8 195, .int .u8 0, .int .u8 0, .int .u8 0, .int .u8 0, .int .u8 0, .int .u8 0, .int .u8 0, .int .u8 0, .int .u8 0, .int .u8 0, .int .u8 0, .int .u8 0, .int .u8 0, .int .u8 0, .int .u8 0, .int .u8 0, .int .u8 0, .int .u8 0, .int .u8 0, .slice none 0 0] rfl rfl TD.out.1 size_en (by kernel_rfl) ?_); (refine wpList_worldE (fun W => Twn W w.heap.size L V ∧ Below w.heap.size w W) TD.out.2 ?_); rintro W5 ⟨t5, b5⟩)
      simp [bodyPost, results, Try.results4, go_sem]
      exact ⟨⟨V, t5⟩, b5⟩
    · have hlt : i < L.length := by omega
      have hlt' : (i : Int) < (L.length : Int) := by omega
      obtain rfl := HA.out.1.cons (by omega)
      have TW : Hid (TwP wr w.heap.size L V i) := tw
      have BW : Hid (Below w.heap.size w wr) := B
      obtain ⟨ak, gk', pk, ck, ev, h2, h3, h4⟩ := (HI.out wr B i hlt).2
      obtain ⟨ad, hp, hs⟩ := src_keys h3
      have CK : Hid (∀ W, Below wr.heap.size wr W → W.cell? ⟨b, o + i * 21 + 20, none⟩ = some (.slice ak (L.getD i zE).K.length ck) ∧ W.rangeAt gk' pk (kyF (L.getD i zE).K) ∧ W.rangeAt b (o + i * 21) (cB (L.getD i zE).A)) := fun W b9 => ⟨by
        have h := (HI.out W (B.trans (b9.mono B.size))).key HA.out.2.1 hlt
        rw [ev] at h; exact h, rng_keep h4 b9, (HI.out W (B.trans (b9.mono B.size))).adr hlt⟩
      have HS : Hid ((ak = some ad ∨ (ak = none ∧ kyF (L.getD i zE).K = [])) ∧ ∀ W : World, W.rangeAt gk' pk (kyF (L.getD i zE).K) → ∀ j v, (kyF (L.getD i zE).K)[j]? = some v → W.cell? (ad.add j) = some v) := ⟨hp, hs⟩
      have WK : Hid (W32 (L.getD i zE).K ∧ (L.getD i zE).K.length ≤ 5000000000000) := ⟨(HA.out.2.1 i hlt).2, HA.out.2.2.1 i hlt⟩
      have LA : Hid ((cB (L.getD i zE).A).length = 20) := by show _ = _; rw [cB_len]; exact (HA.out.2.1 i hlt).1
      have n2 : ((L.getD i zE).K.length : Int) ≤ 5000000000000 := by have := HA.out.2.2.1 i hlt; omega
      have c0 := (CK.out wr (Below.refl _ _)).1
      have c1 : ∀ ob, (wr.alloc ob).cell? ⟨b, o + i * 21 + 20, none⟩ = some (.slice ak (L.getD i zE).K.length ck) := fun ob => (CK.out _ ((Below.refl _ _).alloc (Nat.le_refl _) ob)).1
      have ng : Hid (w.heap.size < wr.heap.size) := tw.2.1
      have hN : ∀ (cs : List Value) (t : TypeId), (wr.alloc (.cells cs.toArray t)).heap[wr.heap.size]? = some (.cells cs.toArray t (0, 0)) := fun cs t => by
        show (wr.heap.push _)[wr.heap.size]? = _
        simp
      clear h2 h3 h4 ev hp hs tw B hi h8
      obtain ⟨KK, eK⟩ : ∃ KK, KK = (L.getD i zE).K := ⟨_, rfl⟩
      obtain ⟨n, en⟩ : ∃ n, n = KK.length := ⟨_, rfl⟩
      rw [← eK] at CK HS WK n2 c0 c1
      rw [← en] at CK WK n2 c0 c1
      have HE : Hid (KK = (L.getD i zE).K ∧ n = KK.length) := ⟨eK, en⟩
      clear eK en
      go_wp2_with (first
        | (refine wpList_make_keys _ rfl _ _ rfl _ _ _ _ (n + 1) rfl rfl (by omega) (by omega) (by have := WK.out.2; omega) ?_)
        | ((refine wpList_copy_wide rfl _ _ _ _ rfl 26 32 Try.underlying34 size_haE wr.heap.size 0 (n + 1) (n + 1) ad ak n ck rfl rfl (List.replicate ((n + 1) * 32) (Value.int .u8 0)) 26 (hN _ _) (kyF KK) n (Nat.min_eq_left (by omega)).symm (by rw [kyF_len KK WK.out.1, HE.out.2]) HS.out.1 (HS.out.2 _ (CK.out _ ((Below.refl _ _).alloc (Nat.le_refl _) _)).2.1) (by rw [kyF_len KK WK.out.1, List.length_replicate, ← HE.out.2]; omega) (kyF_one KK) wr.heap.size wr ((Below.refl _ _).alloc (Nat.le_refl _) _) (Nat.le_refl _) ?_); intro w2 hG2 b2; have c2 := (CK.out w2 b2).1; have hM := marked WK.out.1 (by rw [← HE.out.2]; exact hG2.out))
        | ((refine wpList_store_mid rfl _ _ _ rfl wr.heap.size (n * 32) #[Value.int .u8 195, .int .u8 0, .int .u8 0, .int .u8 0, .int .u8 0, .int .u8 0, .int .u8 0, .int .u8 0, .int .u8 0, .int .u8 0, .int .u8 0, .int .u8 0, .int .u8 0, .int .u8 0, .int .u8 0, .int .u8 0, .int .u8 0, .int .u8 0, .int .u8 0, .int .u8 0, .int .u8 0, .int .u8 0, .int .u8 0, .int .u8 0, .int .u8 0, .int .u8 0, .int .u8 0, .int .u8 0, .int .u8 0, .int .u8 0, .int .u8 0, .int .u8 0] rfl rfl (by rw [HE.out.2]; exact hM.1) size_haE (by kernel_rfl) ?_); (refine wpList_worldE (fun W => Below wr.heap.size wr W ∧ W.rangeAt wr.heap.size 0 (kyF (KK ++ [mkH]))) ⟨below_setCells (Nat.le_refl _) _ _ _ b2, by rw [HE.out.2]; exact hM.2⟩ ?_); rintro W3 ⟨b3, r3⟩))
      have B3 : Hid (∀ d os, Below wr.heap.size wr (grow (redrawn W3 d) os)) := fun d os => b3.trans ((below_regrown W3 d os).mono b3.size)
      have R3 : Hid (∀ d os, (grow (redrawn W3 d) os).rangeAt wr.heap.size 0 (kyF (KK ++ [mkH]))) := fun d os => rng_keep r3 (below_regrown W3 d os)
      have ra : ∀ w', (∃ q : Regrown, w' = grow (redrawn W3 q.d) q.os) → w'.rangeAt b (o + i * 21) (cB (L.getD i zE).A) := by rintro w' ⟨q, rfl⟩; exact (CK.out _ (B3.out q.d q.os)).2.2
      have gc := fun d os => (CK.out _ (B3.out d os)).1
      have ia : (Try.prog.info? 24).map (·.size) = some (cB (L.getD i zE).A).length := by rw [LA.out]; exact size_adE
      have TS : Hid (∀ W, Below wr.heap.size wr W → W.rangeAt wr.heap.size 0 (kyF (KK ++ [mkH])) → W.there w.heap.size (i * 21) 21 ∧ Below w.heap.size w (W.setCells w.heap.size (i * 21) (cB (L.getD i zE).A ++ [Value.slice (some ⟨wr.heap.size, 0, none⟩) n (n + 1)])) ∧ ∃ V2, TwP (W.setCells w.heap.size (i * 21) (cB (L.getD i zE).A ++ [Value.slice (some ⟨wr.heap.size, 0, none⟩) n (n + 1)])) w.heap.size L V2 (i + 1)) := fun W bW rW => by
        have t1 := TW.out.keep bW
        refine ⟨there_inE t1.1 (Nat.zero_le _) (by have := hlt; omega), below_setCells (Nat.le_refl _) _ _ _ (BW.out.trans (bW.mono BW.out.size)), ?_⟩
        rw [HE.out.1] at rW
        have st := t1.step HA.out.2.1 hlt (by have := ng.out; omega) rW
        rw [← HE.out.1, ← HE.out.2] at st
        exact ⟨_, st⟩
      have ec : ∀ v ∈ cB (L.getD i zE).A ++ [Value.slice (some ⟨wr.heap.size, 0, none⟩) n (n + 1)], v.oneCell' = true := fun v hv => by
        rw [List.mem_append] at hv
        rcases hv with hv | hv
        · exact cB_one _ v hv
        · rw [List.mem_singleton] at hv; subst hv; rfl
      have EC : Hid (∀ v ∈ cB (L.getD i zE).A ++ [Value.slice (some ⟨wr.heap.size, 0, none⟩) n (n + 1)], v.oneCell' = true) := ec
      have LC : Hid ((cB (L.getD i zE).A ++ [Value.slice (some ⟨wr.heap.size, 0, none⟩) n (n + 1)]).length = 21) := by show _ = _; rw [List.length_append, LA.out]; rfl
      clear c0 c1 c2 hM hN hG2 b2 w2 r3 CK ec
      generalize cB (L.getD i zE).A = ca at *
      simp only [Act.put]
      refine below_tail 17 (by kernel_rfl) (by kernel_rfl) ?_
      simp only [List.take_succ_cons, List.take_zero, List.drop_succ_cons, List.drop_zero]
      repeat
        first
          | go_big_quiet_skip
          | (go_big_quiet_want; refine quiet_load_midE 24 _ rfl b (o + i * 21) rfl ca _ ra Try.underlying24 rfl ia ?_; simp only [Act.put, List.setIfInBounds_toArray, List.set_cons_succ, List.set_cons_zero]; go_big_quiet_on)
          | (go_big_quiet_want; refine quiet_build_en LA.out rfl rfl rfl ?_; simp only [Act.put, List.setIfInBounds_toArray, List.set_cons_succ, List.set_cons_zero]; go_big_quiet_on)
          | (go_big_quiet_want; go_big_quiet_op; go_big_quiet_on)
      refine wpQuiet_nil ?_
      rintro w4 ⟨q, rfl⟩
      obtain ⟨th, bs, V2, tp⟩ := TS.out _ (B3.out q.d q.os) (R3.out q.d q.os)
      generalize grow (redrawn W3 q.d) q.os = w4 at *
      have TH9 : Hid (w4.there w.heap.size (i * 21) 21) := th
      have TP9 : Hid (Below w.heap.size w (w4.setCells w.heap.size (i * 21) (ca ++ [Value.slice (some ⟨wr.heap.size, 0, none⟩) n (n + 1)])) ∧ TwP (w4.setCells w.heap.size (i * 21) (ca ++ [Value.slice (some ⟨wr.heap.size, 0, none⟩) n (n + 1)])) w.heap.size L V2 (i + 1)) := ⟨bs, tp⟩
      clear ra gc ia B3 R3 th bs tp TS
      generalize ca ++ [Value.slice (some ⟨wr.heap.size, 0, none⟩) n (n + 1)] = ce at *
      go_wp2_with ((refine wpList_store_mid rfl _ _ _ rfl w.heap.size (i * 21) ce.toArray rfl rfl (by show World.there _ _ _ ce.length; rw [LC.out]; exact TH9.out) (by show _ = some ce.length; rw [LC.out]; exact size_en) (all_oneCell_toArray EC.out) ?_); (refine wpList_worldE (fun W => Below w.heap.size w W ∧ TwP W w.heap.size L V2 (i + 1)) TP9.out ?_); rintro W5 ⟨b5, t5⟩)
      go_roundg (L.length - (i + 1))
      case measure => have := HK.out.1; omega
      case rel => exact ⟨i + 1, V2, rfl, hlt, by go_num, b5, t5⟩
end Go.Proofs.Ytongiohdomacoaa
