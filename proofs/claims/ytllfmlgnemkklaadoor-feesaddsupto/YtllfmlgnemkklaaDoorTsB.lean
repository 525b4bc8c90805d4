import Derived.Test.YtllfmlgnemkklaaDoorTsA
import Derived.Test.YtllfmlgnemkklaaDoorAdLast
import Derived.Great.BuildSlice
/- waybillplay: Copy, Lent, LentHashes. -/
namespace Go.Proofs.YtllfmlgnemkklaaDoor.tq
open Go.RowKit Go.Sort
theorem size_hs : (Tryd.prog.info? 67).map (·.size) = some 32 := by kernel_rfl
theorem size_ad : (Tryd.prog.info? 26).map (·.size) = some 20 := by kernel_rfl
theorem hC_len (X : List Int) : (hC X).length = X.length := List.length_map _
theorem hC_one (X : List Int) : ∀ u ∈ hC X, u.oneCell' = true := fun u hu => by
  obtain ⟨y, _, rfl⟩ := List.mem_map.1 hu; rfl
theorem new_range {W : World} {cs : List Value} {t : TypeId} : (W.alloc (.cells cs.toArray t)).rangeAt W.heap.size 0 cs := fun j v hv => by
  have hn : (W.alloc (.cells cs.toArray t)).heap[W.heap.size]? = some (.cells cs.toArray t) := by
    show (W.heap.push _)[W.heap.size]? = _
    simp
  rw [Nat.zero_add, cell_of_row _ _ j _ _ _ hn]; simpa using hv
def mkHs : List Int := 165 :: 90 :: List.replicate 30 0
def mkAd : List Int := 165 :: 90 :: List.replicate 18 0
def MkH (W : World) : Prop := W.rangeAt 1 0 (hC mkHs)
def MkA (W : World) : Prop := W.rangeAt 0 0 (hC mkAd)
theorem MkH.keep {W W' : World} (h : MkH W) (B : Below W.heap.size W W') : MkH W' := range_keep h B
theorem MkA.keep {W W' : World} (h : MkA W) (B : Below W.heap.size W W') : MkA W' := range_keep h B
theorem rI_b : rowInfo Tryd.prog 5 1 1 = true := by kernel_rfl
theorem rI_h : rowInfo Tryd.prog 67 32 32 = true := by kernel_rfl
theorem Bz.rangeT {W : World} {b o : Nat} {A : List Int} (h : Bz W b o A) : W.rangeAt b o (hC A) := fun j v hv => by
  unfold hC at hv
  rw [List.getElem?_map] at hv
  obtain ⟨x, hx, rfl⟩ := Option.map_eq_some_iff.1 hv
  have hj : j < A.length := (List.getElem?_eq_some_iff.1 hx).1
  rw [h j hj]
  simp [List.getD, hx]
theorem Az.orT {a : Option Addr} {b o : Nat} {X : List Int} (h : Az a b o X) : X.length = 0 ∨ a = some ⟨b, o, none⟩ := h.imp (fun e => by rw [e]; rfl) id
set_option maxRecDepth 100000 in
set_option maxHeartbeats 4000000 in
theorem copy_any {a : Option Addr} {b o c : Nat} {X : List Int} (hl : X.length < 1000000000) (w : World) (hG : BtG w a b o c X) :
    Calls Tryd.prog 54 #[.slice a X.length c] w fun e w' => ∃ v, e = .returned v ∧ OwnB w.heap.size w' v X ∧ Below w.heap.size w w' := by
  have HG : Hid (BtG w a b o c X ∧ X.length < 1000000000) := ⟨hG, hl⟩
  clear hG hl
  go_enter Tryd.func54, Tryd.ntmps54
  go_wp2_with ((at_builtin; go_loud (refine wpList_append_rw (n := 0) (g := b) (p := o) (news := hC X) 1 1 27 5 Tryd.underlying27 rI_b (by decide) rfl _ _ rfl rfl rfl (World.ownsRow_nil w w.heap.size _ _) (by rw [hC_len, Nat.mul_one]) (Az.orT HG.out.1.2.1) HG.out.1.1.2 (Bz.rangeT HG.out.1.2.2.1) (hC_one X) (by have := HG.out.2; unfold maxLen; omega) (by have := HG.out.2; omega) (Nat.le_refl _) ?_)); intro v' w1 h1 g1 b1)
  simp [bodyPost, results, Tryd.results54, go_sem]
  refine ⟨?_, (Below.refl _ _).grown g1 (Nat.le_refl _) (fun k hk => by cases hk)⟩
  rw [Nat.zero_add, List.nil_append] at h1
  exact h1
theorem rep_snocT (k : Nat) (x : Int) : List.replicate k x ++ [x] = List.replicate (k + 1) x := by rw [List.replicate_succ']
def lentT (X : List Int) : List Int := X ++ List.replicate 70 165
theorem lentT_len (X : List Int) : (lentT X).length = X.length + 70 := by simp [lentT]
def mk2 : List Value := flatC hC [mkHs, mkHs]
theorem mk2_eq : [Value.int .u8 165, .int .u8 90, .int .u8 0, .int .u8 0, .int .u8 0, .int .u8 0, .int .u8 0, .int .u8 0, .int .u8 0, .int .u8 0, .int .u8 0, .int .u8 0, .int .u8 0, .int .u8 0, .int .u8 0, .int .u8 0, .int .u8 0, .int .u8 0, .int .u8 0, .int .u8 0, .int .u8 0, .int .u8 0, .int .u8 0, .int .u8 0, .int .u8 0, .int .u8 0, .int .u8 0, .int .u8 0, .int .u8 0, .int .u8 0, .int .u8 0, .int .u8 0, .int .u8 165, .int .u8 90, .int .u8 0, .int .u8 0, .int .u8 0, .int .u8 0, .int .u8 0, .int .u8 0, .int .u8 0, .int .u8 0, .int .u8 0, .int .u8 0, .int .u8 0, .int .u8 0, .int .u8 0, .int .u8 0, .int .u8 0, .int .u8 0, .int .u8 0, .int .u8 0, .int .u8 0, .int .u8 0, .int .u8 0, .int .u8 0, .int .u8 0, .int .u8 0, .int .u8 0, .int .u8 0, .int .u8 0, .int .u8 0, .int .u8 0, .int .u8 0] = mk2 := rfl
theorem mk2_len : mk2.length = 2 * 32 := rfl
theorem mk2_new {W : World} {t : TypeId} : (W.alloc (.cells #[.int .u8 165, .int .u8 90, .int .u8 0, .int .u8 0, .int .u8 0, .int .u8 0, .int .u8 0, .int .u8 0, .int .u8 0, .int .u8 0, .int .u8 0, .int .u8 0, .int .u8 0, .int .u8 0, .int .u8 0, .int .u8 0, .int .u8 0, .int .u8 0, .int .u8 0, .int .u8 0, .int .u8 0, .int .u8 0, .int .u8 0, .int .u8 0, .int .u8 0, .int .u8 0, .int .u8 0, .int .u8 0, .int .u8 0, .int .u8 0, .int .u8 0, .int .u8 0, .int .u8 165, .int .u8 90, .int .u8 0, .int .u8 0, .int .u8 0, .int .u8 0, .int .u8 0, .int .u8 0, .int .u8 0, .int .u8 0, .int .u8 0, .int .u8 0, .int .u8 0, .int .u8 0, .int .u8 0, .int .u8 0, .int .u8 0, .int .u8 0, .int .u8 0, .int .u8 0, .int .u8 0, .int .u8 0, .int .u8 0, .int .u8 0, .int .u8 0, .int .u8 0, .int .u8 0, .int .u8 0, .int .u8 0, .int .u8 0, .int .u8 0, .int .u8 0] t)).rangeAt W.heap.size 0 mk2 := by rw [← mk2_eq]; exact new_range
theorem KsG.len {W : World} {a : Option Addr} {b o c : Nat} {ks : List (List Int)} (h : KsG W a b o c ks) (i : Nat) (hi : i < ks.length) : (hC (ks.getD i [])).length = 32 := by
  rw [hC_len]; exact (h.2.2 i hi).1.1
theorem mem_at {α : Type} {p : α → Prop} (z : α) {L : List α} (h : ∀ i, i < L.length → p (L.getD i z)) : ∀ x ∈ L, p x := fun x hx => by
  obtain ⟨i, hi, rfl⟩ := List.getElem_of_mem hx
  have := h i hi
  rwa [List.getD, List.getElem?_eq_getElem hi] at this
theorem KsG.flat {W : World} {a : Option Addr} {b o c : Nat} {ks : List (List Int)} (h : KsG W a b o c ks) : W.rangeAt b o (flatC hC ks) := flat_of [] ks o h.len fun i hi => (h.2.2 i hi).2
theorem KsG.flen {W : World} {a : Option Addr} {b o c : Nat} {ks : List (List Int)} (h : KsG W a b o c ks) : (flatC hC ks).length = ks.length * 32 := flatC_len ks (mem_at (p := fun x => (hC x).length = 32) [] h.len)
theorem KsG.or {W : World} {a : Option Addr} {b o c : Nat} {ks : List (List Int)} (h : KsG W a b o c ks) : ks.length = 0 ∨ a = some ⟨b, o, none⟩ := h.2.1.imp (fun e => by rw [e]; rfl) id
theorem hs_one (ks : List (List Int)) : ∀ u ∈ flatC hC ks, u.oneCell' = true := flat_one ks fun x _ => hC_one x
theorem mk2_one : ∀ u ∈ mk2, u.oneCell' = true := hs_one _
set_option maxRecDepth 100000 in
set_option maxHeartbeats 4000000 in
theorem lentH_any {a : Option Addr} {b o c : Nat} {ks : List (List Int)} (hl : ks.length < 1000000000) (w : World) (hM : MkH w) (hG : KsG w a b o c ks) :
    Calls Tryd.prog 46 #[.slice a ks.length c] w fun e w' => ∃ g cap, e = .returned (.slice (some ⟨g, 0, none⟩) ks.length cap) ∧ ks.length + 2 ≤ cap ∧ w.heap.size ≤ g ∧ g < w'.heap.size ∧ w'.rangeAt g 0 (flatC hC (ks ++ [mkHs, mkHs])) ∧ Below w.heap.size w w' := by
  obtain ⟨m, em⟩ : ∃ m, m = ks.length := ⟨_, rfl⟩
  have HG : Hid (KsG w a b o c ks ∧ m < 1000000000 ∧ ks.length = m) := ⟨hG, by omega, em.symm⟩
  have HM : Hid (w.rangeAt 1 0 [.int .u8 165, .int .u8 90, .int .u8 0, .int .u8 0, .int .u8 0, .int .u8 0, .int .u8 0, .int .u8 0, .int .u8 0, .int .u8 0, .int .u8 0, .int .u8 0, .int .u8 0, .int .u8 0, .int .u8 0, .int .u8 0, .int .u8 0, .int .u8 0, .int .u8 0, .int .u8 0, .int .u8 0, .int .u8 0, .int .u8 0, .int .u8 0, .int .u8 0, .int .u8 0, .int .u8 0, .int .u8 0, .int .u8 0, .int .u8 0, .int .u8 0, .int .u8 0]) := hM
  have n1 : (m : Int) < 1000000000 := by omega
  rw [← em]
  clear hG hl hM em
  go_enter Tryd.func46, Tryd.ntmps46
  go_wp2_with first
    | refine wpList_load_mid rfl 67 _ rfl 1 0 rfl [.int .u8 165, .int .u8 90, .int .u8 0, .int .u8 0, .int .u8 0, .int .u8 0, .int .u8 0, .int .u8 0, .int .u8 0, .int .u8 0, .int .u8 0, .int .u8 0, .int .u8 0, .int .u8 0, .int .u8 0, .int .u8 0, .int .u8 0, .int .u8 0, .int .u8 0, .int .u8 0, .int .u8 0, .int .u8 0, .int .u8 0, .int .u8 0, .int .u8 0, .int .u8 0, .int .u8 0, .int .u8 0, .int .u8 0, .int .u8 0, .int .u8 0, .int .u8 0] _ r1 Tryd.underlying67 rfl size_hs ?_
    | ((at_builtin; refine wpList_append_rw (n := 0) (g := b) (p := o) (news := flatC hC ks) 32 32 29 67 Tryd.underlying29 rI_h (by decide) rfl _ _ rfl rfl rfl (World.ownsRow_nil w w.heap.size _ _) (by rw [← HG.out.2.2]; exact HG.out.1.flen) (by rw [← HG.out.2.2]; exact HG.out.1.or) HG.out.1.1.2 HG.out.1.flat (hs_one ks) (by have := HG.out.2; unfold maxLen; omega) (by have := HG.out.2; omega) (Nat.le_refl _) ?_); (intro v1 w1 h1 g1 b1); (have B1 : Below w.heap.size w w1 := (Below.refl _ _).grown g1 (Nat.le_refl _) (fun k hk => by cases hk)); (have r1 : w1.rangeAt 1 0 [.int .u8 165, .int .u8 90, .int .u8 0, .int .u8 0, .int .u8 0, .int .u8 0, .int .u8 0, .int .u8 0, .int .u8 0, .int .u8 0, .int .u8 0, .int .u8 0, .int .u8 0, .int .u8 0, .int .u8 0, .int .u8 0, .int .u8 0, .int .u8 0, .int .u8 0, .int .u8 0, .int .u8 0, .int .u8 0, .int .u8 0, .int .u8 0, .int .u8 0, .int .u8 0, .int .u8 0, .int .u8 0, .int .u8 0, .int .u8 0, .int .u8 0, .int .u8 0] := range_keep HM.out B1); (have HO : Hid (w1.ownsRow w.heap.size 67 32 v1 m (flatC hC ks) ∧ Below w.heap.size w w1) := ⟨by rw [Nat.zero_add, List.nil_append] at h1; exact h1, B1⟩); (clear h1 g1 b1 B1))
    | ((at_builtin; refine wpList_append_rw (B := w.heap.size) (n := m) (v := v1) (xs := flatC hC ks) (g := w1.heap.size) (p := 0) (m := 2) (news := mk2) 32 32 29 67 Tryd.underlying29 rI_h (by decide) rfl _ _ rfl rfl rfl (HO.out.1.alloc _) mk2_len (.inr rfl) (fun e => by cases e) mk2_new mk2_one (by have := HG.out.2; unfold maxLen; omega) (by have := HG.out.2; omega) (by have := HO.out.2.size; rw [World.size_alloc]; omega) ?_); (intro v2 w2 h2 g2 b2); (obtain ⟨g, cap, e2, hcap, hb, hlt, hr⟩ := own_at h2 (by omega)); (have c1 : (m : Int) ≤ (cap : Int) := by omega); (have HR : Hid (w2.rangeAt g 0 (flatC hC (ks ++ [mkHs, mkHs])) ∧ Below w.heap.size w w2 ∧ w.heap.size ≤ g ∧ g < w2.heap.size ∧ m + 2 ≤ cap) := ⟨by rw [flatC_app]; exact hr, (HO.out.2.alloc HO.out.2.size _).grown g2 (by have := HO.out.2.size; rw [World.size_alloc]; omega) (fun k hk => (HO.out.1.lt k hk).1), hb, hlt, hcap⟩); (subst e2); (clear h2 g2 b2 hb hlt hr hcap))
  simp [bodyPost, results, Tryd.results46, go_sem]
  exact ⟨g, cap, ⟨rfl, rfl⟩, HR.out.2.2.2.2, HR.out.2.2.1, HR.out.2.2.2.1, HR.out.1, HR.out.2.1⟩
end Go.Proofs.YtllfmlgnemkklaaDoor.tq
