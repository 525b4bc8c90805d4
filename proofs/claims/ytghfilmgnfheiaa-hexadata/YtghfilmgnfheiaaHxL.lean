import Derived.Test.YtghfilmgnfheiaaHxK
import Derived.Test.YtghfilmgnfheiaaHxF
namespace Go.Proofs.Ytghfilmgnfheiaa
open Go.RowKit Go.Sort

/-- The text 0x0102. -/
def lit12 : ByteArray := ⟨#[48, 120, 48, 49, 48, 50]⟩
theorem lit12_ok : okP lit12 := by
  refine ⟨by decide, (frB_bt (by decide)).2 (by decide), fun i hi => ?_⟩
  rw [tl_size] at hi
  rw [tl_bt]
  have : i = 0 ∨ i = 1 ∨ i = 2 ∨ i = 3 := by have : lit12.size = 6 := rfl; omega
  rcases this with rfl | rfl | rfl | rfl <;> decide
theorem lit12_size : (tl lit12).size = 4 := by rw [tl_size]; rfl
theorem lit12_E : pdE lit12 = 0 := by
  unfold pdE
  rw [if_neg (by decide), if_pos lit12_ok, if_pos (by rw [lit12_size])]
theorem lit12_X : pdX lit12 = [1, 2] := by
  unfold pdX
  rw [if_pos ⟨by decide, lit12_ok, by rw [lit12_size]⟩, lit12_size]
  have e : pk (tl lit12) (4 / 2) = [16 * dv (bt (tl lit12) 0) + dv (bt (tl lit12) 1), 16 * dv (bt (tl lit12) 2) + dv (bt (tl lit12) 3)] := rfl
  rw [e, tl_bt, tl_bt, tl_bt, tl_bt]
  decide
theorem OwnB.two (W : World) {B : Nat} (hB : B ≤ W.heap.size) (x y : Int) : OwnB B (W.alloc (.cells #[.int .u8 x, .int .u8 y] 5)) (.slice (some ⟨W.heap.size, 0, none⟩) 2 2) [x, y] :=
  World.ownsRow_lit (base := B) (e := 5) (size := 1) W #[.int .u8 x, .int .u8 y] 2 hB (by unfold maxLen; omega) rfl
theorem Rd.two {w w' : World} {v : Value} {X : List Int} {r1 r2 : Option Nat} (h : Rd w v X) (ht : Two w w' r1 r2) (h1 : ∀ k, v.ownBlock = some k → r1 ≠ some k) (h2 : ∀ k, v.ownBlock = some k → r2 ≠ some k) : Rd w' v X := by
  by_cases hX : X = []
  · obtain ⟨a, g, c, h3, h4, h5⟩ := h
    subst hX
    exact ⟨a, g, c, h3, h4, fun i hi => absurd hi (Nat.not_lt_zero _)⟩
  · obtain ⟨g, c, h3, h4, h5⟩ := h.block hX
    refine ⟨_, g, c, h3, fun _ => rfl, fun i hi => ?_⟩
    have := h5 i hi
    rw [World.cell?_of_block (w := w) (a := ⟨g, i, none⟩) (ht.block g (World.block_lt_of_cell? _ _ this) (fun e => h1 g h4 e.symm) (fun e => h2 g h4 e.symm))]
    exact this
theorem pdX_len (s : ByteArray) : (pdX s).length < 33554434 := by
  unfold pdX
  split
  · rename_i hs
    have := hs.1
    rw [pk_len, tl_size]; omega
  · simp
theorem num8_any (E : Int) (w : World) : Calls Try.prog 8 #[.int .i64 E] w fun e w' => e = .returned (.int .i64 E) ∧ w' = w := by
  go_enter Try.func8, Try.ntmps8
  go_wp2
  go_ret
  exact ⟨by simp, rfl⟩
set_option maxRecDepth 100000 in
set_option maxHeartbeats 8000000 in
theorem data_any (s : ByteArray) (w : World) :
    Calls Try.prog 3 #[.string s] w fun r w' => r = .returned (.bool true) ∧ Below w.heap.size w w' := by
  have hp := pd_any (s := s)
  have hr := rpd_any (s := s)
  have HL : Hid ((pdX s).length < 33554434) := pdX_len s
  have h0 := pd_any (s := lit12)
  rw [lit12_E, lit12_X] at h0
  unfold lit12 at h0
  generalize pdX s = X at *
  generalize pdE s = E at *
  go_enter Try.func3, Try.ntmps3
  go_wp2_with fail
  with_reducible refine (hp _).mono ?_
  rintro e1 w1 ⟨v1, rfl, o1, b1⟩
  go_wp2_with fail
  with_reducible refine (hp _).mono ?_
  rintro e1 w2 ⟨v2, rfl, o2, b2⟩
  go_wp2_with fail
  with_reducible refine (h0 _).mono ?_
  rintro e1 w3 ⟨v3, rfl, o3, b3⟩
  go_wp2_with fail
  with_reducible refine (hr _).mono ?_
  rintro e1 w4 ⟨v4, rfl, o4, b4⟩
  clear hp hr h0
  have HP : Hid ((∀ k, v1.ownBlock = some k → w.heap.size ≤ k ∧ k < w1.heap.size) ∧ (∀ k, v2.ownBlock = some k → w1.heap.size ≤ k ∧ k < w2.heap.size) ∧ (∀ k, v3.ownBlock = some k → w2.heap.size ≤ k) ∧ w.heap.size ≤ w1.heap.size ∧ w1.heap.size ≤ w2.heap.size) :=
    ⟨fun k hk => World.ownsRow.lt o1 k hk, fun k hk => World.ownsRow.lt o2 k hk, fun k hk => (World.ownsRow.lt o3 k hk).1, b1.size, b2.size⟩
  have b12 := b1.size
  have b23 := b2.size
  have b34 := b3.size
  have B4 : Below w.heap.size w w4 := ((b1.trans (b2.mono b12)).trans (b3.mono (by omega))).trans (b4.mono (by omega))
  have c1 : OwnB w.heap.size w4 v1 X := ((o1.keep b2).keep b3).keep b4
  have c2 : OwnB w.heap.size w4 v2 X := ownsRow_base ((o2.keep b3).keep b4) (by omega)
  have c3 : OwnB w.heap.size w4 v3 [1, 2] := ownsRow_base (o3.keep b4) (by omega)
  have c4 : OwnB w.heap.size w4 v4 X := ownsRow_base o4 (by omega)
  clear o1 o2 o3 o4 b1 b2 b3 b4 b12 b23 b34
  go_wp2_with fail
  with_reducible refine (same8_yes (by have := HL.out; omega) _ c1.rd c4.rd).mono ?_
  rintro e1 w5 ⟨rfl, hb⟩
  replace c1 := c1.keep hb
  replace c2 := c2.keep hb
  replace c3 := c3.keep hb
  replace c4 := c4.keep hb
  replace B4 := B4.trans (hb.mono B4.size)
  clear hb w4
  have hnE := num8_any E
  have hn0 := num8_any 0
  go_wp2_with ((with_reducible refine (hnE _).mono ?_); rintro e1 w9 ⟨rfl, hw9⟩; (rw [hw9]); (clear hw9 w9))
  with_reducible refine (same8_yes (by have := HL.out; omega) _ c2.rd c4.rd).mono ?_
  rintro e1 w6 ⟨rfl, hb⟩
  replace c1 := c1.keep hb
  replace c2 := c2.keep hb
  replace c3 := c3.keep hb
  replace B4 := B4.trans (hb.mono B4.size)
  clear hb w5 c4
  go_wp2_with fail
  refine callsH (fun W => Below w.heap.size w W ∧ OwnB w.heap.size W v1 X ∧ OwnB w.heap.size W v2 X ∧ OwnB w.heap.size W v3 [1, 2] ∧ OwnB w.heap.size W (.slice (some ⟨w6.heap.size, 0, none⟩) 2 2) [1, 2]) ⟨B4.alloc B4.size _, c1.keep ((Below.refl _ _).alloc (Nat.le_refl _) _), c2.keep ((Below.refl _ _).alloc (Nat.le_refl _) _), c3.keep ((Below.refl _ _).alloc (Nat.le_refl _) _), OwnB.two _ B4.size _ _⟩ ?_
  clear B4 c1 c2 c3
  rintro W ⟨B4, c1, c2, c3, c5⟩
  with_reducible refine (same8_yes (by decide) _ c3.rd c5.rd).mono ?_
  rintro e1 w7 ⟨rfl, hb⟩
  replace c1 := c1.keep hb
  replace c2 := c2.keep hb
  replace c3 := c3.keep hb
  replace B4 := B4.trans (hb.mono B4.size)
  clear hb W c5
  go_wp2_with ((with_reducible refine (hn0 _).mono ?_); rintro e1 w9 ⟨rfl, hw9⟩; (rw [hw9]); (clear hw9 w9))
  with_reducible refine (apart8_any (by have := HL.out; omega) (by have := HL.out; omega) _ c1 c2 B4.size (fun k h1 h2 => by have := HP.out.1 k h1; have := HP.out.2.1 k h2; omega)).mono ?_
  rintro e1 w8 ⟨rfl, two⟩
  have r3 : Rd w8 v3 [1, 2] := c3.rd.two two (fun k h1 h2 => by have := HP.out.2.2.1 k h1; have := HP.out.1 k h2; have := HP.out.2.2.2; omega) (fun k h1 h2 => by have := HP.out.2.2.1 k h1; have := HP.out.2.1 k h2; omega)
  replace B4 : Below w.heap.size w w8 := B4.trans (two.below B4.size (fun k hk => (HP.out.1 k hk).1) (fun k hk => by have := HP.out.2.1 k hk; have := HP.out.2.2.2; omega))
  clear two c1 c2 c3 w7
  go_wp2_with fail
  refine callsH (fun W => Below w.heap.size w W ∧ Rd W v3 [1, 2] ∧ OwnB w.heap.size W (.slice (some ⟨w8.heap.size, 0, none⟩) 2 2) [1, 2]) ⟨B4.alloc B4.size _, r3.keep ((Below.refl _ _).alloc (Nat.le_refl _) _), OwnB.two _ B4.size _ _⟩ ?_
  clear B4 r3
  rintro W ⟨B4, c3, c5⟩
  with_reducible refine (same8_yes (by decide) _ c3 c5.rd).mono ?_
  rintro e1 w7 ⟨rfl, hb⟩
  replace B4 := B4.trans (hb.mono B4.size)
  clear hb W c5 c3
  go_wp2
  go_ret
  exact ⟨by simp, B4⟩
end Go.Proofs.Ytghfilmgnfheiaa
