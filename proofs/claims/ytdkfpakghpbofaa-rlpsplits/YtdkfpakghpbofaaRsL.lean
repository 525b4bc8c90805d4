import Derived.Test.YtdkfpakghpbofaaRsK
/- Layer 7: Parts of a head that is refused, or of a text. -/
namespace Go.Proofs.Ytdkfpakghpbofaa
open Go.RowKit Go.Sort
set_option maxRecDepth 100000 in
set_option maxHeartbeats 4000000 in
theorem parts_err {a : Option Addr} {m c : Nat} {l : Bool} {s h e0 : Int} (he : e0 ≠ 0) (w : World)
    (FH : Hid (∀ w1, Below w.heap.size w w1 → Calls Try.prog 13 #[.slice a m c] w1 fun e w' => e = .returned (.tuple #[.agg #[.bool l, .int .i64 s, .int .i64 h], .int .i64 e0]) ∧ Below w1.heap.size w1 w')) :
    Calls Try.prog 9 #[.slice a m c] w fun e w' => e = .returned (.tuple #[.slice none 0 0, .int .i64 e0]) ∧ Below w.heap.size w w' := by
  have b6 : (e0 == 0) = false := beq_false_of_ne he
  have b7 : (e0 != 0) = true := bne_iff_ne.2 he
  go_enter Try.func9, Try.ntmps9
  go_wp2_with fail
  with_reducible refine (FH.out w (Below.refl _ _)).mono ?_
  rintro e w1 ⟨rfl, B⟩
  clear FH
  go_wp2
  simp [bodyPost, results, Try.results9, go_sem]
  exact B.alloc B.size _
set_option maxRecDepth 100000 in
set_option maxHeartbeats 4000000 in
theorem parts_kind {a : Option Addr} {m c : Nat} {s h : Int} (w : World)
    (FH : Hid (∀ w1, Below w.heap.size w w1 → Calls Try.prog 13 #[.slice a m c] w1 fun e w' => e = .returned (.tuple #[.agg #[.bool false, .int .i64 s, .int .i64 h], .int .i64 0]) ∧ Below w1.heap.size w1 w')) :
    Calls Try.prog 9 #[.slice a m c] w fun e w' => e = .returned (.tuple #[.slice none 0 0, .int .i64 75]) ∧ Below w.heap.size w w' := by
  go_enter Try.func9, Try.ntmps9
  go_wp2_with fail
  with_reducible refine (FH.out w (Below.refl _ _)).mono ?_
  rintro e w1 ⟨rfl, B⟩
  clear FH
  go_wp2
  simp [bodyPost, results, Try.results9, go_sem]
  exact B.alloc B.size _
set_option maxRecDepth 100000 in
set_option maxHeartbeats 4000000 in
theorem parts_rest {a : Option Addr} {m c s h : Nat} (hn : s + h < m) (hm : m ≤ 16777216) (w : World)
    (FH : Hid (∀ w1, Below w.heap.size w w1 → Calls Try.prog 13 #[.slice a m c] w1 fun e w' => e = .returned (.tuple #[.agg #[.bool true, .int .i64 (s : Int), .int .i64 (h : Int)], .int .i64 0]) ∧ Below w1.heap.size w1 w')) :
    Calls Try.prog 9 #[.slice a m c] w fun e w' => e = .returned (.tuple #[.slice none 0 0, .int .i64 73]) ∧ Below w.heap.size w w' := by
  obtain ⟨t, et⟩ : ∃ t, t = s + h := ⟨_, rfl⟩
  have WH : Hid (∀ W, Calls Try.prog 15 #[.agg #[.bool true, .int .i64 (s : Int), .int .i64 (h : Int)]] W fun e w' => e = .returned (.int .i64 (t : Int)) ∧ Below W.heap.size W w') := fun W => by
    have r := whole_any (l := true) (s := s) (h := h) (by omega) (by omega) W
    rwa [show ((s : Int) + (h : Int)) = (t : Int) by omega] at r
  have k1 : (t : Int) < (m : Int) := by omega
  clear hn hm et
  go_enter Try.func9, Try.ntmps9
  go_wp2_with fail
  with_reducible refine (FH.out w (Below.refl _ _)).mono ?_
  rintro e w1 ⟨rfl, B⟩
  clear FH
  go_wp2_with (go_at_call 15; refine (WH.out _).mono ?_; rintro e x ⟨rfl, hbx⟩)
  simp [bodyPost, results, Try.results9, go_sem]
  have b2 := B.alloc (o := .cells #[.bool true, .int .i64 (s : Int), .int .i64 (h : Int)] 39) B.size
  exact b2.trans (hbx.mono b2.size)
set_option maxRecDepth 100000 in
set_option maxHeartbeats 4000000 in
theorem parts_on {b o m c s h : Nat} {R : World → Value → Int → Prop} (hn : s + h = m) (hm : m ≤ 16777216) (hc : m ≤ c) (w : World)
    (FH : Hid (∀ w1, Below w.heap.size w w1 → Calls Try.prog 13 #[.slice (some ⟨b, o, none⟩) m c] w1 fun e w' => e = .returned (.tuple #[.agg #[.bool true, .int .i64 (s : Int), .int .i64 (h : Int)], .int .i64 0]) ∧ Below w1.heap.size w1 w'))
    (CU : Hid (∀ w1, Below w.heap.size w w1 → Calls Try.prog 18 #[.slice (some ⟨b, atO o c s, none⟩) (m - s) (c - s)] w1 fun e w' => ∃ v k, e = .returned (.tuple #[v, .int .i64 k]) ∧ R w' v k ∧ Below w1.heap.size w1 w')) :
    Calls Try.prog 9 #[.slice (some ⟨b, o, none⟩) m c] w fun e w' => ∃ v k, e = .returned (.tuple #[v, .int .i64 k]) ∧ R w' v k ∧ Below w.heap.size w w' := by
  have WH : Hid (∀ W, Calls Try.prog 15 #[.agg #[.bool true, .int .i64 (s : Int), .int .i64 (h : Int)]] W fun e w' => e = .returned (.int .i64 (m : Int)) ∧ Below W.heap.size W w') := fun W => by
    have r := whole_any (l := true) (s := s) (h := h) (by omega) (by omega) W
    rwa [show ((s : Int) + (h : Int)) = (m : Int) by omega] at r
  have k1 : (s : Int) ≤ (m : Int) := by omega
  have k2 : s ≤ m := by omega
  have k3 : m ≤ c := hc
  have k4 : (m : Int) ≤ (c : Int) := by omega
  have ae : (if c = s then some (⟨b, o, none⟩ : Addr) else some ⟨b, o + s, none⟩) = some ⟨b, atO o c s, none⟩ := by unfold atO; split <;> rfl
  clear hn hm hc
  go_enter Try.func9, Try.ntmps9
  go_wp2_with fail
  with_reducible refine (FH.out w (Below.refl _ _)).mono ?_
  rintro e w1 ⟨rfl, B⟩
  clear FH
  have b2 := B.alloc (o := .cells #[.bool true, .int .i64 (s : Int), .int .i64 (h : Int)] 39) B.size
  go_wp2_with (first | (go_at_call 15; (refine (WH.out _).mono ?_); rintro e x ⟨rfl, hbx⟩; obtain ⟨g0, g1, g2⟩ := (Hb.new (W := w1) (t := 39) (l := true) (s := (s : Int)) (h := (h : Int))).keep hbx) | (go_at_call 18; (refine (CU.out _ (b2.trans (hbx.mono b2.size))).mono ?_); rintro e y ⟨v, k, rfl, hR, hby⟩))
  have b3 := b2.trans (hbx.mono b2.size)
  have b4 := b3.trans (hby.mono b3.size)
  clear b2 b3 hby hbx g0 g1 g2 CU WH B
  simp [bodyPost, results, Try.results9, go_sem]
  exact ⟨v, k, ⟨rfl, rfl⟩, hR, b4⟩
end Go.Proofs.Ytdkfpakghpbofaa
