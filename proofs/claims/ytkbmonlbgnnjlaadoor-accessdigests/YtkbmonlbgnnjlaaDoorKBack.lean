import Derived.Test.YtkbmonlbgnnjlaaDoorKLent
import Derived.Maps.AppendAt
namespace Go.Proofs.YtkbmonlbgnnjlaaDoor.K
open Go.RowKit Go.Sort

/-- A slice of the call's own memory, of these bytes. -/
def Own (B : Nat) (W : World) (v : Value) (X : List (BitVec 8)) : Prop := W.ownsRow B 5 1 v X.length (byts X)
theorem Own.row {B : Nat} {W : World} {v : Value} {X : List (BitVec 8)} (h : Own B W v X) : W.ownsRow B 5 1 v X.length (byts X) := h
theorem byts_snoc (X : List (BitVec 8)) (x : BitVec 8) : byts X ++ [.int .u8 (Y x)] = byts (X ++ [x]) := by simp [byts]
end Go.Proofs.YtkbmonlbgnnjlaaDoor.K

namespace Go.Proofs.YtkbmonlbgnnjlaaDoor.K
open Go.RowKit Go.Sort

theorem Sp.same {W W' : World} {b : Nat} {k : Int} {L : List (BitVec 64)} {t : Nat} (h : Sp W b k L t) (e : W'.heap[b]? = W.heap[b]?) : Sp W' b k L t :=
  ⟨h.1, by rw [World.cell?_of_block (w := W) (a := ⟨b, 0, none⟩) e]; exact h.2.1, fun i hi => by rw [World.cell?_of_block (w := W) (a := ⟨b, 1 + i, none⟩) e]; exact h.2.2.1 i hi, by rw [World.cell?_of_block (w := W) (a := ⟨b, 26, none⟩) e]; exact h.2.2.2.1, fun i hi => by rw [World.frozen?_of_block (w := W) (a := ⟨b, i, none⟩) e]; exact h.2.2.2.2 i hi⟩
theorem Byo.same {W W' : World} {b o : Nat} {X : List (BitVec 8)} (h : Byo W b o X) (e : W'.heap[b]? = W.heap[b]?) : Byo W' b o X := fun i hi => by rw [World.cell?_of_block (w := W) (a := ⟨b, o + i, none⟩) e]; exact h i hi
theorem own_same {W W' : World} {base : Nat} {e : TypeId} {size : Nat} {v : Value} {n : Nat} {xs : List Value} (h : W.ownsRow base e size v n xs) (hs : ∀ k, v.ownBlock = some k → W'.heap[k]? = W.heap[k]?) : W'.ownsRow base e size v n xs := by
  refine ⟨h.1, ?_⟩
  rcases h.2 with h | ⟨g, cap, cur, rfl, hb, hg, r⟩
  · exact .inl h
  · exact .inr ⟨g, cap, cur, rfl, hb, by rw [hs g rfl]; exact hg, r⟩

/-- What the loop over the cuts keeps. N: the blocks that were there; b0, b1: two sponges; pv: the slice of the parts PS. -/
structure Inv (w W : World) (b0 b1 : Nat) (pv : Value) (PS : List Part) (L0 L1 : List (BitVec 64)) (t0 t1 : Nat) : Prop where
  below : Below w.heap.size w W
  ge0 : w.heap.size ≤ b0
  ge1 : w.heap.size ≤ b1
  ne : b0 ≠ b1
  s0 : Sp W b0 0 L0 t0
  s1 : Sp W b1 1 L1 t1
  own : W.ownsRow w.heap.size 33 1 pv PS.length (PS.map Part.val)
  own0 : pv.ownBlock ≠ some b0
  own1 : pv.ownBlock ≠ some b1
  parts : ∀ p ∈ PS, p.ok W ∧ p.b < W.heap.size ∧ p.b ≠ b0 ∧ p.b ≠ b1 ∧ pv.ownBlock ≠ some p.b

theorem Inv.same {w W W' : World} {b0 b1 : Nat} {pv : Value} {PS : List Part} {L0 L1 : List (BitVec 64)} {t0 t1 : Nat} (h : Inv w W b0 b1 pv PS L0 L1 t0 t1) (hb : Below W.heap.size W W') : Inv w W' b0 b1 pv PS L0 L1 t0 t1 where
  below := h.below.trans (hb.mono h.below.size)
  ge0 := h.ge0
  ge1 := h.ge1
  ne := h.ne
  s0 := h.s0.keep hb
  s1 := h.s1.keep hb
  own := own_same h.own fun k hk => hb.block k (h.own.lt k hk).2
  own0 := h.own0
  own1 := h.own1
  parts := fun p hp => by
    obtain ⟨⟨q1, q2, q3⟩, q4, q5⟩ := h.parts p hp
    exact ⟨⟨q1, q2, q3.keep hb⟩, Nat.lt_of_lt_of_le q4 hb.size, q5⟩

/-- A part is put behind the others. -/
theorem Inv.push {w W W' : World} {b0 b1 : Nat} {pv pv' : Value} {PS : List Part} {L0 L1 : List (BitVec 64)} {t0 t1 : Nat} (h : Inv w W b0 b1 pv PS L0 L1 t0 t1) {p : Part} (hp : p.ok W) (lp : p.b < W.heap.size) (n0 : p.b ≠ b0) (n1 : p.b ≠ b1) (np : pv.ownBlock ≠ some p.b)
    (hown : W'.ownsRow w.heap.size 33 1 pv' (PS.length + 1) (PS.map Part.val ++ [p.val])) (hg : W.grownBy W' pv.ownBlock) (hblk : pv'.ownBlock = pv.ownBlock ∨ pv'.ownBlock = some W.heap.size) : Inv w W' b0 b1 pv' (PS ++ [p]) L0 L1 t0 t1 where
  below := h.below.grown hg h.below.size (fun k hk => (h.own.lt k hk).1)
  ge0 := h.ge0
  ge1 := h.ge1
  ne := h.ne
  s0 := h.s0.same (hg.block b0 h.s0.lt (fun e => h.own0 e.symm))
  s1 := h.s1.same (hg.block b1 h.s1.lt (fun e => h.own1 e.symm))
  own := by rw [List.length_append, List.map_append]; exact hown
  own0 := by
    rcases hblk with e | e
    · rw [e]; exact h.own0
    · rw [e]; intro e2; have := Option.some.inj e2; have := h.s0.lt; omega
  own1 := by
    rcases hblk with e | e
    · rw [e]; exact h.own1
    · rw [e]; intro e2; have := Option.some.inj e2; have := h.s1.lt; omega
  parts := fun q hq => by
    have key : ∀ q : Part, q.ok W → q.b < W.heap.size → q.b ≠ b0 → q.b ≠ b1 → pv.ownBlock ≠ some q.b → q.ok W' ∧ q.b < W'.heap.size ∧ q.b ≠ b0 ∧ q.b ≠ b1 ∧ pv'.ownBlock ≠ some q.b := by
      rintro q ⟨a1, a2, a3⟩ a4 a5 a6 a7
      refine ⟨⟨a1, a2, a3.same (hg.block q.b a4 (fun e => a7 e.symm))⟩, Nat.lt_of_lt_of_le a4 hg.size, a5, a6, ?_⟩
      rcases hblk with e | e
      · rw [e]; exact a7
      · rw [e]; intro e2; have := Option.some.inj e2; omega
    rcases List.mem_append.1 hq with hq | hq
    · obtain ⟨q1, q2, q3, q4, q5⟩ := h.parts q hq
      exact key q q1 q2 q3 q4 q5
    · obtain rfl := List.mem_singleton.1 hq
      exact key q hp lp n0 n1 np

end Go.Proofs.YtkbmonlbgnnjlaaDoor.K

namespace Go.Proofs.YtkbmonlbgnnjlaaDoor.K
open Go.RowKit Go.Sort

theorem own_form {B : Nat} {W : World} {v : Value} {X : List (BitVec 8)} (h : Own B W v X) (h0 : 0 < X.length) : ∃ g c, v = .slice (some ⟨g, 0, none⟩) X.length c ∧ X.length ≤ c := by
  rcases h.2 with ⟨rfl, h1⟩ | ⟨g, cap, cur, rfl, _, _, hle, _⟩
  · omega
  · exact ⟨g, cap, rfl, hle⟩
theorem byts_set (X : List (BitVec 8)) (i : Nat) (x : BitVec 8) : (byts X).set i (.int .u8 (Y x)) = byts (X.set i x) := by simp [byts, List.map_set]

/-- The text filled up. -/
def padN (n : Nat) : Nat := 135 - n % 136
def fillL (X : List (BitVec 8)) (f : BitVec 8) : List (BitVec 8) := (X ++ f :: List.replicate (padN X.length) 0).set (X.length + padN X.length) ((X ++ f :: List.replicate (padN X.length) 0).getD (X.length + padN X.length) 0 ||| 128)

set_option maxHeartbeats 4000000 in
theorem filled_some {ad : Addr} {bd od cd : Nat} {X : List (BitVec 8)} (f : BitVec 8) (hl : X.length < 1073741824) (ha : X = [] ∨ ad = ⟨bd, od, none⟩) (w : World) (hX : Byo w bd od X) :
    Calls Tryd.prog 44 #[.slice (some ad) X.length cd, .int .u8 (Y f)] w fun e w' => ∃ v, e = .returned v ∧ Own w.heap.size w' v (fillL X f) ∧ Below w.heap.size w w' := by
  have hl' : (X.length : Int) < 1073741824 := by omega
  obtain ⟨i0, hi, hz0, hz1, hz2⟩ := info_parts info_byte
  have HZ : Hid (Tryd.prog.info? 5 = some i0 ∧ i0.zero = some (.int .u8 0) ∧ i0.size = 1 ∧ i0.bytes = 1) := ⟨hi, hz0, hz1, hz2⟩
  have HA : Hid ((∀ j u, (byts X)[j]? = some u → w.cell? (ad.add j) = some u) ∧ X.length < 1073741824) := by
    refine ⟨fun j u hu => ?_, hl⟩
    unfold byts at hu
    rw [List.getElem?_map] at hu
    obtain ⟨x, hx, rfl⟩ := Option.map_eq_some_iff.1 hu
    have hj : j < X.length := (List.getElem?_eq_some_iff.1 hx).1
    rcases ha with h | h
    · rw [h] at hj; simp at hj
    · rw [h, Addr.add_mid, hX j hj]
      simp [List.getD, hx]
  clear ha hX hl hi hz0 hz1 hz2
  go_enter Tryd.func44, Tryd.ntmps44
  go_wp2_with (first
    | (at_builtin; refine wpList_append_own_at _ rfl _ _ 33 rfl w.heap.size 5 i0 (.int .u8 0) 1 1 Tryd.underlying33 HZ.out.1 HZ.out.2.1 HZ.out.2.2.1 HZ.out.2.2.2 rfl (by decide) (.slice none 0 0) 0 [] rfl (World.ownsRow_nil _ _ _ _) ad X.length cd (byts X) rfl (by rw [byts_len, Nat.mul_one]) HA.out.1 (fun u hu => by obtain ⟨x, _, rfl⟩ := List.mem_map.1 hu; rfl) (by unfold maxLen; have := HA.out.2; omega) (by have := HA.out.2; omega) (Nat.le_refl _) ?_; intro v1 w1 hown1 hgrow1 hnil1 hblk1; have I1 : Hid (Own w.heap.size w1 v1 X ∧ Below w.heap.size w w1) := ⟨by rw [Nat.zero_add, List.nil_append] at hown1; exact hown1, (Below.refl _ _).grown hgrow1 (Nat.le_refl _) (fun k hk => by cases hk)⟩; clear hown1 hgrow1 hnil1 hblk1)
    | (at_builtin; refine wpList_append_own_at _ rfl _ _ 33 rfl w.heap.size 5 i0 (.int .u8 0) 1 1 Tryd.underlying33 HZ.out.1 HZ.out.2.1 HZ.out.2.2.1 HZ.out.2.2.2 rfl (by decide) v1 _ _ rfl (I1.out.1.row.alloc _) ⟨w1.heap.size, 0, none⟩ 1 1 [.int .u8 (Y f)] rfl rfl (cell_one_new _ _ _) (fun u hu => by simp at hu; subst hu; rfl) (by unfold maxLen; have := HA.out.2; omega) (by have := HA.out.2; omega) (by have := I1.out.2.size; simp; omega) ?_; intro v2 w2 hown2 hgrow2 hnil2 hblk2; have I2 : Hid (Own w.heap.size w2 v2 (X ++ [f]) ∧ Below w.heap.size w w2) := ⟨by rw [Own, List.length_append, ← byts_snoc]; exact hown2, (I1.out.2.alloc I1.out.2.size _).grown hgrow2 (by have := I1.out.2.size; simp; omega) (fun k hk => (I1.out.1.row.lt k hk).1)⟩; clear hown2 hgrow2 hnil2 hblk2))
  clear I1
  go_loopg [5] (padN X.length) (fun k lv wr => ∃ j : Nat, k = padN X.length - j ∧ j ≤ padN X.length ∧ Own w.heap.size wr lv (X ++ f :: List.replicate j 0) ∧ Below w.heap.size w wr)
  case atStart => exact ⟨0, rfl, Nat.zero_le _, I2.out⟩
  case round =>
    clear I2
    obtain ⟨j, hk, hj, hown, hB⟩ := hrel
    obtain ⟨Z, kZ⟩ : ∃ Z, Z = X ++ f :: List.replicate j 0 := ⟨_, rfl⟩
    rw [← kZ] at hown
    have lZ : Z.length = X.length + 1 + j := by rw [kZ, List.length_append, List.length_cons, List.length_replicate]; omega
    obtain ⟨g, c, ev, hc⟩ := own_form hown (by omega)
    subst ev
    have HF : Hid (Own w.heap.size wr (.slice (some ⟨g, 0, none⟩) Z.length c) Z ∧ Below w.heap.size w wr ∧ Z = X ++ f :: List.replicate j 0 ∧ Z.length = X.length + 1 + j ∧ Z.length ≤ c ∧ gk = padN X.length - j ∧ j ≤ padN X.length) := ⟨hown, hB, kZ, lZ, hc, hk, hj⟩
    have zb : (Z.length : Int) < 1073742824 := by have := HA.out.2; unfold padN at hj; omega
    clear hk hj hown hB kZ lZ hc
    by_cases h8 : j = padN X.length
    · have q2 : ((Z.length : Int) % 136 == 0) = true := beq_iff_eq.2 (by have := HF.out; unfold padN at h8; omega)
      have q3 : ((Z.length : Int) % 136 != 0) = false := by rw [bne, q2]; rfl
      have q4 : (Z.length : Int) % 136 = 0 := beq_iff_eq.1 q2
      have H8 : Hid (j = padN X.length) := h8
      clear h8 q4
      obtain ⟨m, em⟩ : ∃ m : Nat, (Z.length : Int) - 1 = (m : Int) := ⟨Z.length - 1, by have := HF.out; omega⟩
      have EM : Hid (m = X.length + padN X.length) := by have h : m = X.length + padN X.length := (by have := HF.out; have := H8.out; omega); exact h
      have m1 : m < Z.length := by omega
      have gz : wr.cell? ⟨g, m, none⟩ = some (.int .u8 (Y (Z.getD m 0))) := by
        rw [HF.out.1.row.cellAt m (by omega)]
        simp [byts, List.getD, m1]
      have fz := HF.out.1.row.frozenAt m
      obtain ⟨z, kz⟩ : ∃ z, z = Z.getD m 0 := ⟨_, rfl⟩
      rw [← kz] at gz
      have y128 : Y 128 = 128 := by rw [Y_eq]; rfl
      have yo : bits .or .u8 (Y z) 128 = Y (z ||| 128) := by rw [← y128]; exact Y_or z 128
      have FIN : Hid (Z.set m (z ||| 128) = fillL X f) := by
        rw [fillL, ← H8.out, ← HF.out.2.2.1, H8.out, ← EM.out, kz]
        exact rfl
      have KZ : Hid (z = Z.getD m 0) := kz
      clear kz y128
      go_wp2
      go_ret
      refine ⟨_, rfl, ?_, HF.out.2.1.setCell (HF.out.1.row.lt g rfl).1 _⟩
      rw [← FIN.out, Own, List.length_set, ← byts_set]
      exact (HF.out.1.row.stored m _).1
    · have q2 : ((Z.length : Int) % 136 == 0) = false := beq_eq_false_iff_ne.2 (by have := HF.out; unfold padN at *; omega)
      have q3 : ((Z.length : Int) % 136 != 0) = true := by rw [bne, q2]; rfl
      have HJ : Hid (j < padN X.length) := by have h : j < padN X.length := (by have := HF.out; omega); exact h
      have y0 : Hid (Y 0 = 0) := Y_zero
      clear h8
      go_wp2_with (at_builtin; refine wpList_append_own_at _ rfl _ _ 33 rfl w.heap.size 5 i0 (.int .u8 0) 1 1 Tryd.underlying33 HZ.out.1 HZ.out.2.1 HZ.out.2.2.1 HZ.out.2.2.2 rfl (by decide) (.slice (some ⟨g, 0, none⟩) Z.length c) _ _ rfl (HF.out.1.row.alloc _) ⟨wr.heap.size, 0, none⟩ 1 1 [.int .u8 0] rfl rfl (cell_one_new _ _ _) (fun u hu => by simp at hu; subst hu; rfl) (by unfold maxLen; have := HF.out; have := HA.out.2; unfold padN at *; omega) (by have := HF.out; have := HA.out.2; unfold padN at *; omega) (by have := HF.out.2.1.size; simp; omega) ?_; intro v3 w3 hown3 hgrow3 hnil3 hblk3; have I3 : Hid (Own w.heap.size w3 v3 (Z ++ [0]) ∧ Below w.heap.size w w3) := ⟨by rw [Own, List.length_append, ← byts_snoc, y0.out]; exact hown3, (HF.out.2.1.alloc HF.out.2.1.size _).grown hgrow3 (by have := HF.out.2.1.size; simp; omega) (fun k hk => (HF.out.1.row.lt k hk).1)⟩; clear hown3 hgrow3 hnil3 hblk3)
      go_roundg (padN X.length - (j + 1))
      case measure => have := HF.out; have := HJ.out; omega
      case rel =>
        refine ⟨j + 1, rfl, by have := HJ.out; omega, ?_, I3.out.2⟩
        have h := I3.out.1
        rw [HF.out.2.2.1, List.append_assoc, List.cons_append, ← List.replicate_succ'] at h
        exact h

end Go.Proofs.YtkbmonlbgnnjlaaDoor.K

namespace Go.Proofs.YtkbmonlbgnnjlaaDoor.K
open Go.RowKit Go.Sort

theorem mixL_zero {L : List (BitVec 64)} {p : Nat} (h : p / 8 < L.length) : mixL L p 0 = L := by
  rw [mixL, up_zero, show (0 : BitVec 64) = 0#64 from rfl, BitVec.xor_zero]
  apply List.ext_getElem (by simp)
  intro i h1 h2
  by_cases e : i = p / 8
  · subst e; simp [List.getD, h]
  · simp [Ne.symm e]
theorem mixs_zeros {L : List (BitVec 64)} (hl : L.length = 25) : ∀ (n p : Nat), p + n ≤ 200 → mixs L p (List.replicate n 0) = L
  | 0, _, _ => rfl
  | n + 1, p, h => by rw [List.replicate_succ, mixs, mixL_zero (by omega)]; exact mixs_zeros hl n (p + 1) (by omega)
theorem mixs_app (L : List (BitVec 64)) : ∀ (p : Nat) (X Z : List (BitVec 8)), mixs L p (X ++ Z) = mixs (mixs L p X) (p + X.length) Z
  | p, [], Z => rfl
  | p, x :: X, Z => by
    rw [List.cons_append, mixs, mixs, mixs_app _ (p + 1) X Z]
    simp [Nat.add_assoc, Nat.add_comm 1]
theorem kup_or (x : BitVec 8) (h : x &&& 128 = 0) (s : Nat) : up (x ||| 128) s = up x s ^^^ up 128 s := by
  have e : x ||| 128 = x ^^^ 128 := by
    apply BitVec.eq_of_getLsbD_eq
    intro i hi
    have g := congrArg (fun z => z.getLsbD i) h
    simp only [BitVec.getLsbD_and, BitVec.getLsbD_or, BitVec.getLsbD_xor] at g ⊢
    revert g
    cases x.getLsbD i <;> cases (128 : BitVec 8).getLsbD i <;> simp
  rw [e]
  unfold up
  apply BitVec.eq_of_getLsbD_eq
  intro i hi
  simp only [BitVec.getLsbD_xor, BitVec.getLsbD_shiftLeft, BitVec.getLsbD_setWidth]
  by_cases c : i < s <;> simp [c, hi]
  by_cases c2 : i - s < 64 <;> simp [c2]
theorem mixL_or {L : List (BitVec 64)} {p : Nat} (h : p / 8 < L.length) (x : BitVec 8) (hx : x &&& 128 = 0) : mixL L p (x ||| 128) = mixL (mixL L p x) p 128 := by
  unfold mixL
  have g : (L.set (p / 8) (L.getD (p / 8) 0 ^^^ up x (p % 8 * 8))).getD (p / 8) 0 = L.getD (p / 8) 0 ^^^ up x (p % 8 * 8) := by simp [List.getD, h]
  rw [g, kup_or x hx, List.set_set, BitVec.xor_assoc]
theorem fst_and (k : Int) : fstB k &&& 128 = 0 := by
  unfold fstB
  split <;> decide

theorem fill_tail (X : List (BitVec 8)) (f : BitVec 8) : fillL X f = X ++ (f :: List.replicate (padN X.length) 0).set (padN X.length) ((f :: List.replicate (padN X.length) 0).getD (padN X.length) 0 ||| 128) := by
  unfold fillL
  rw [List.set_append_right _ _ (by omega), Nat.add_sub_cancel_left, List.getD, List.getElem?_append_right (by omega), Nat.add_sub_cancel_left]
  rfl
theorem fill_len (X : List (BitVec 8)) (f : BitVec 8) : (fillL X f).length = X.length + padN X.length + 1 := by
  rw [fill_tail, List.length_append, List.length_set, List.length_cons, List.length_replicate]
  omega
theorem fill_fin {A : List (BitVec 64)} (hA : A.length = 25) (k : Int) (X : List (BitVec 8)) (h : A = absb (List.replicate 25 0) 0 X) : absb (List.replicate 25 0) 0 (fillL X (fstB k)) = finL k A X.length := by
  rw [fill_tail, absb_app, ← h, Nat.zero_add]
  obtain ⟨n, kn⟩ : ∃ n, n = padN X.length := ⟨_, rfl⟩
  rw [← kn]
  have l : ((fstB k :: List.replicate n 0).set n ((fstB k :: List.replicate n 0).getD n 0 ||| 128)).length = n + 1 := by simp
  have hn : X.length % 136 + (n + 1) = 136 := by rw [kn]; unfold padN; omega
  rw [absb_piece _ _ _ (by omega) (by omega), l, turn, if_pos (by omega), finL]
  congr 1
  cases n with
  | zero =>
    have e : X.length % 136 = 135 := by omega
    rw [e]
    show mixL A 135 (fstB k ||| 128) = _
    exact mixL_or (by omega) _ (fst_and k)
  | succ m =>
    have e : (fstB k :: List.replicate (m + 1) 0).set (m + 1) ((fstB k :: List.replicate (m + 1) 0).getD (m + 1) 0 ||| 128) = fstB k :: (List.replicate m 0 ++ [128]) := by
      rw [List.set_cons_succ, List.replicate_succ', List.set_append_right _ _ (by simp), List.length_replicate, Nat.sub_self]
      simp [List.getD]
    rw [e, mixs, mixs_app, mixs_zeros (by rw [mixL_len]; exact hA) m _ (by omega), List.length_replicate, mixs, mixs, show X.length % 136 + 1 + m = 135 by omega]

end Go.Proofs.YtkbmonlbgnnjlaaDoor.K

namespace Go.Proofs.YtkbmonlbgnnjlaaDoor.K
open Go.RowKit Go.Sort

set_option maxHeartbeats 4000000 in
theorem filled_none (f : BitVec 8) (w : World) :
    Calls Tryd.prog 44 #[.slice none 0 0, .int .u8 (Y f)] w fun e w' => ∃ v, e = .returned v ∧ Own w.heap.size w' v (fillL [] f) ∧ Below w.heap.size w w' := by
  obtain ⟨X, kX⟩ : ∃ X : List (BitVec 8), X = [] := ⟨_, rfl⟩
  have KX : Hid (X = []) := kX
  rw [← kX]
  have x0 : X.length = 0 := by rw [kX]; rfl
  have X0 : Hid (X.length = 0) := x0
  clear kX x0
  obtain ⟨i0, hi, hz0, hz1, hz2⟩ := info_parts info_byte
  have HZ : Hid (Tryd.prog.info? 5 = some i0 ∧ i0.zero = some (.int .u8 0) ∧ i0.size = 1 ∧ i0.bytes = 1) := ⟨hi, hz0, hz1, hz2⟩
  have HA : Hid (True ∧ X.length < 1073741824) := ⟨trivial, by rw [X0.out]; decide⟩
  clear hi hz0 hz1 hz2
  go_enter Tryd.func44, Tryd.ntmps44
  go_wp2_with (at_builtin; refine wpList_append_own_at _ rfl _ _ 33 rfl w.heap.size 5 i0 (.int .u8 0) 1 1 Tryd.underlying33 HZ.out.1 HZ.out.2.1 HZ.out.2.2.1 HZ.out.2.2.2 rfl (by decide) (.slice none 0 0) 0 [] rfl (World.ownsRow_nil _ _ _ _) ⟨w.heap.size, 0, none⟩ 1 1 [.int .u8 (Y f)] rfl rfl (cell_one_new _ _ _) (fun u hu => by simp at hu; subst hu; rfl) (by unfold maxLen; omega) (by omega) (by simp) ?_; intro v2 w2 hown2 hgrow2 hnil2 hblk2; have I2 : Hid (Own w.heap.size w2 v2 (X ++ [f]) ∧ Below w.heap.size w w2) := ⟨by rw [KX.out]; rw [Nat.zero_add, List.nil_append] at hown2; exact hown2, ((Below.refl _ _).alloc (Nat.le_refl _) _).grown hgrow2 (by simp) (fun k hk => by cases hk)⟩; clear hown2 hgrow2 hnil2 hblk2)
  go_loopg [5] (padN X.length) (fun k lv wr => ∃ j : Nat, k = padN X.length - j ∧ j ≤ padN X.length ∧ Own w.heap.size wr lv (X ++ f :: List.replicate j 0) ∧ Below w.heap.size w wr)
  case atStart => exact ⟨0, rfl, Nat.zero_le _, I2.out⟩
  case round =>
    clear I2
    obtain ⟨j, hk, hj, hown, hB⟩ := hrel
    obtain ⟨Z, kZ⟩ : ∃ Z, Z = X ++ f :: List.replicate j 0 := ⟨_, rfl⟩
    rw [← kZ] at hown
    have lZ : Z.length = X.length + 1 + j := by rw [kZ, List.length_append, List.length_cons, List.length_replicate]; omega
    obtain ⟨g, c, ev, hc⟩ := own_form hown (by omega)
    subst ev
    have HF : Hid (Own w.heap.size wr (.slice (some ⟨g, 0, none⟩) Z.length c) Z ∧ Below w.heap.size w wr ∧ Z = X ++ f :: List.replicate j 0 ∧ Z.length = X.length + 1 + j ∧ Z.length ≤ c ∧ gk = padN X.length - j ∧ j ≤ padN X.length) := ⟨hown, hB, kZ, lZ, hc, hk, hj⟩
    have zb : (Z.length : Int) < 1073742824 := by have := HA.out.2; unfold padN at hj; omega
    clear hk hj hown hB kZ lZ hc
    by_cases h8 : j = padN X.length
    · have q2 : ((Z.length : Int) % 136 == 0) = true := beq_iff_eq.2 (by have := HF.out; unfold padN at h8; omega)
      have q3 : ((Z.length : Int) % 136 != 0) = false := by rw [bne, q2]; rfl
      have q4 : (Z.length : Int) % 136 = 0 := beq_iff_eq.1 q2
      have H8 : Hid (j = padN X.length) := h8
      clear h8 q4
      obtain ⟨m, em⟩ : ∃ m : Nat, (Z.length : Int) - 1 = (m : Int) := ⟨Z.length - 1, by have := HF.out; omega⟩
      have EM : Hid (m = X.length + padN X.length) := by have h : m = X.length + padN X.length := (by have := HF.out; have := H8.out; omega); exact h
      have m1 : m < Z.length := by omega
      have gz : wr.cell? ⟨g, m, none⟩ = some (.int .u8 (Y (Z.getD m 0))) := by
        rw [HF.out.1.row.cellAt m (by omega)]
        simp [byts, List.getD, m1]
      have fz := HF.out.1.row.frozenAt m
      obtain ⟨z, kz⟩ : ∃ z, z = Z.getD m 0 := ⟨_, rfl⟩
      rw [← kz] at gz
      have y128 : Y 128 = 128 := by rw [Y_eq]; rfl
      have yo : bits .or .u8 (Y z) 128 = Y (z ||| 128) := by rw [← y128]; exact Y_or z 128
      have FIN : Hid (Z.set m (z ||| 128) = fillL X f) := by
        rw [fillL, ← H8.out, ← HF.out.2.2.1, H8.out, ← EM.out, kz]
        exact rfl
      have KZ : Hid (z = Z.getD m 0) := kz
      clear kz y128
      go_wp2
      go_ret
      refine ⟨_, rfl, ?_, HF.out.2.1.setCell (HF.out.1.row.lt g rfl).1 _⟩
      rw [← FIN.out, Own, List.length_set, ← byts_set]
      exact (HF.out.1.row.stored m _).1
    · have q2 : ((Z.length : Int) % 136 == 0) = false := beq_eq_false_iff_ne.2 (by have := HF.out; unfold padN at *; omega)
      have q3 : ((Z.length : Int) % 136 != 0) = true := by rw [bne, q2]; rfl
      have HJ : Hid (j < padN X.length) := by have h : j < padN X.length := (by have := HF.out; omega); exact h
      have y0 : Hid (Y 0 = 0) := Y_zero
      clear h8
      go_wp2_with (at_builtin; refine wpList_append_own_at _ rfl _ _ 33 rfl w.heap.size 5 i0 (.int .u8 0) 1 1 Tryd.underlying33 HZ.out.1 HZ.out.2.1 HZ.out.2.2.1 HZ.out.2.2.2 rfl (by decide) (.slice (some ⟨g, 0, none⟩) Z.length c) _ _ rfl (HF.out.1.row.alloc _) ⟨wr.heap.size, 0, none⟩ 1 1 [.int .u8 0] rfl rfl (cell_one_new _ _ _) (fun u hu => by simp at hu; subst hu; rfl) (by unfold maxLen; have := HF.out; have := HA.out.2; unfold padN at *; omega) (by have := HF.out; have := HA.out.2; unfold padN at *; omega) (by have := HF.out.2.1.size; simp; omega) ?_; intro v3 w3 hown3 hgrow3 hnil3 hblk3; have I3 : Hid (Own w.heap.size w3 v3 (Z ++ [0]) ∧ Below w.heap.size w w3) := ⟨by rw [Own, List.length_append, ← byts_snoc, y0.out]; exact hown3, (HF.out.2.1.alloc HF.out.2.1.size _).grown hgrow3 (by have := HF.out.2.1.size; simp; omega) (fun k hk => (HF.out.1.row.lt k hk).1)⟩; clear hown3 hgrow3 hnil3 hblk3)
      go_roundg (padN X.length - (j + 1))
      case measure => have := HF.out; have := HJ.out; omega
      case rel =>
        refine ⟨j + 1, rfl, by have := HJ.out; omega, ?_, I3.out.2⟩
        have h := I3.out.1
        rw [HF.out.2.2.1, List.append_assoc, List.cons_append, ← List.replicate_succ'] at h
        exact h


end Go.Proofs.YtkbmonlbgnnjlaaDoor.K
