import Derived.Test.YtahekhamhdfkdaaRxA
import Derived.Test.YtahekhamhdfkdaaRsD
/- Layer 7: measured, of any tree. -/
namespace Go.Proofs.Ytahekhamhdfkdaa
open Go.RowKit Go.Sort

theorem hdR_same (f g : Int) (n : Nat) : (hdR f n).length = (hdR g n).length := by
  unfold hdR; split <;> rfl
/-- The value of an item. -/
def itV (t : Tr) (d q : Value) : Value := .agg #[.bool t.l, d, q]
set_option maxRecDepth 100000 in
theorem isOdd_any {l : Bool} {X : List Int} {ts : List Tr} {a1 a2 : Option Addr} {c1 c2 : Nat} (w : World) :
    Calls Try.prog 54 #[.agg #[.bool l, .slice a1 X.length c1, .slice a2 ts.length c2]] w fun e w' => e = .returned (.bool (odd1 l X ts)) ∧ Below w.heap.size w w' := by
  unfold odd1
  generalize X.length = n at *
  generalize ts.length = m at *
  cases l
  · go_enter Try.func54, Try.ntmps54
    go_wp2
    go_ret
    exact ⟨by simp, (Below.refl _ _).alloc (Nat.le_refl _) _⟩
  · go_enter Try.func54, Try.ntmps54
    go_wp2
    go_ret
    exact ⟨by simp, (Below.refl _ _).alloc (Nat.le_refl _) _⟩
set_option maxRecDepth 100000 in
theorem textSize_any {X : List Int} {a : Option Addr} {b o c : Nat} (hX : X.length < 16777216) (ha : Az a b o X) (w : World) (h : Bz w b o X) :
    Calls Try.prog 55 #[.slice a X.length c] w fun e w' => e = .returned (.int .i64 ((encX X).length : Int)) ∧ w' = w := by
  have c1 := bare_any (c := c) ha w h
  have c2 := headSize_any hX w
  have e1 : (encX X).length = if bareB X then 1 else (hdR 192 X.length).length + X.length := by
    unfold encX
    split
    · next hb =>
      unfold bareB at hb
      simp at hb
      exact hb.1
    · rw [List.length_append, hdR_same 128 192]
  have hl := hdR_len 192 X.length
  rw [e1]
  have HL : Hid (X.length < 16777216 ∧ (hdR 192 X.length).length ≤ 4) := ⟨hX, hl⟩
  clear ha h e1 hl hX
  generalize (hdR 192 X.length).length = r at *
  generalize bareB X = B at *
  generalize X.length = n at *
  cases B
  · go_enter Try.func55, Try.ntmps55
    go_wp2_with (first
      | ((with_reducible refine c1.mono ?_); rintro e1 w1 ⟨rfl, hw⟩; (rw [hw]); (clear hw w1))
      | ((with_reducible refine c2.mono ?_); rintro e1 w1 ⟨rfl, hw⟩; (rw [hw]); (clear hw w1)))
    simp [bodyPost, results, Try.results55, go_sem]
    have := HL.out
    unfold wrap64; omega
  · go_enter Try.func55, Try.ntmps55
    go_wp2_with (first
      | ((with_reducible refine c1.mono ?_); rintro e1 w1 ⟨rfl, hw⟩; (rw [hw]); (clear hw w1)))
    simp [bodyPost, results, Try.results55, go_sem]
/-- What measured answers. -/
def mV (t : Tr) : Value := if oddT t then .agg #[.bool true, .int .i64 0, .int .i64 0] else .agg #[.bool false, .int .i64 (dpT t), .int .i64 (encT t).length]
theorem len_wt : ∀ ts : List Tr, ts.length ≤ wtS ts
  | [] => Nat.zero_le _
  | .mk l X us :: ts => by
    have := len_wt ts
    rw [wtS, wtT, List.length_cons]; omega
/-- The part of measured for one item: its block holds the item, another the answer. -/
def Bx (W : World) (b : Nat) (l : Bool) (d q : Value) : Prop := W.cell? ⟨b, 0, none⟩ = some (.bool l) ∧ W.cell? ⟨b, 1, none⟩ = some d ∧ W.cell? ⟨b, 2, none⟩ = some q
theorem Bx.keep {W w1 : World} {b : Nat} {l : Bool} {d q : Value} (x : Bx W b l d q) (hb : Below W.heap.size W w1) : Bx w1 b l d q := ⟨keepC hb x.1, keepC hb x.2.1, keepC hb x.2.2⟩
set_option maxRecDepth 100000 in
set_option maxHeartbeats 4000000 in
theorem measured_odd {l : Bool} {X : List Int} {ts : List Tr} {a1 a2 : Option Addr} {c1 c2 : Nat} (h : odd1 l X ts = true) (w : World) :
    Calls Try.prog 36 #[.agg #[.bool l, .slice a1 X.length c1, .slice a2 ts.length c2]] w fun e w' => e = .returned (.agg #[.bool true, .int .i64 0, .int .i64 0]) ∧ Below w.heap.size w w' := by
  have C := fun w => isOdd_any (l := l) (X := X) (ts := ts) (a1 := a1) (a2 := a2) (c1 := c1) (c2 := c2) w
  rw [h] at C
  clear h
  generalize X.length = n at *
  generalize ts.length = m at *
  go_enter Try.func36, Try.ntmps36
  refine wp_seq_k fun K h => ?_
  have H : Hid _ := h
  clear h
  go_wp2_with fail
  refine H.out _ _ ?_
  clear H K
  refine wp_world (fun W => Below w.heap.size w W ∧ Bx W w.heap.size l (.slice a1 n c1) (.slice a2 m c2) ∧ Hb W (w.heap.size + 1) false 0 0 ∧ Fr3 W (w.heap.size + 1)) ⟨((Below.refl _ _).alloc (Nat.le_refl _) _).alloc (by simp) _, ⟨by simp [go_sem], by simp [go_sem], by simp [go_sem]⟩, ⟨by simp [go_sem], by simp [go_sem], by simp [go_sem]⟩, ⟨by simp [go_sem], by simp [go_sem], by simp [go_sem]⟩⟩ ?_
  rintro W ⟨B, hX, hR, hF⟩
  have hX' := hX
  obtain ⟨x0, x1, x2⟩ := hX'
  go_wp2_with ((with_reducible refine (C _).mono ?_); rintro e1 w1 ⟨rfl, hw⟩; (have B1 := B.trans (hw.mono B.size)); (obtain ⟨r0, r1, r2⟩ := hR.keep hw); (obtain ⟨z0, z1, z2⟩ := hF.keep hR.lt hw); (clear x0 x1 x2 hX))
  simp [bodyPost, results, Try.results36, go_sem, r0, r1, r2]
  exact ((B1.setCell (by show w.heap.size ≤ w.heap.size + 1; omega) _).setCell (by show w.heap.size ≤ w.heap.size + 1; omega) _).setCell (by show w.heap.size ≤ w.heap.size + 1; omega) _
set_option maxRecDepth 100000 in
set_option maxHeartbeats 4000000 in
theorem measured_text {X : List Int} {ts : List Tr} {a1 a2 : Option Addr} {b o c1 c2 : Nat} (h : odd1 false X ts = false) (hn : X.length < 16777216) (ha : Az a1 b o X) (w : World) (hb : Bz w b o X) :
    Calls Try.prog 36 #[.agg #[.bool false, .slice a1 X.length c1, .slice a2 ts.length c2]] w fun e w' => e = .returned (.agg #[.bool false, .int .i64 0, .int .i64 (encX X).length]) ∧ Below w.heap.size w w' := by
  have C := fun w => isOdd_any (l := false) (X := X) (ts := ts) (a1 := a1) (a2 := a2) (c1 := c1) (c2 := c2) w
  rw [h] at C
  have D : Hid (∀ W, Below w.heap.size w W → Calls Try.prog 55 #[.slice a1 X.length c1] W fun e w' => e = .returned (.int .i64 ((encX X).length : Int)) ∧ w' = W) := fun W B => textSize_any (c := c1) hn ha W (hb.keep B)
  clear h hn ha hb
  generalize (encX X).length = r at *
  generalize X.length = n at *
  generalize ts.length = m at *
  go_enter Try.func36, Try.ntmps36
  refine wp_seq_k fun K h => ?_
  have H : Hid _ := h
  clear h
  go_wp2_with fail
  refine H.out _ _ ?_
  clear H K
  refine wp_world (fun W => Below w.heap.size w W ∧ Bx W w.heap.size false (.slice a1 n c1) (.slice a2 m c2) ∧ Hb W (w.heap.size + 1) false 0 0 ∧ Fr3 W (w.heap.size + 1)) ⟨((Below.refl _ _).alloc (Nat.le_refl _) _).alloc (by simp) _, ⟨by simp [go_sem], by simp [go_sem], by simp [go_sem]⟩, ⟨by simp [go_sem], by simp [go_sem], by simp [go_sem]⟩, ⟨by simp [go_sem], by simp [go_sem], by simp [go_sem]⟩⟩ ?_
  rintro W ⟨B, hX, hR, hF⟩
  have hX' := hX
  obtain ⟨x0, x1, x2⟩ := hX'
  go_wp2_with (first
    | ((with_reducible refine (C _).mono ?_); rintro e1 w1 ⟨rfl, hw⟩; (have B1 := B.trans (hw.mono B.size)); (obtain ⟨r0, r1, r2⟩ := hR.keep hw); (obtain ⟨z0, z1, z2⟩ := hF.keep hR.lt hw); (replace x0 := keepC hw x0); (replace x1 := keepC hw x1); (clear x2 hX))
    | ((with_reducible refine (D.out _ B1).mono ?_); rintro e1 w2 ⟨rfl, rfl⟩))
  simp [bodyPost, results, Try.results36, go_sem, r0, r1, r2]
  exact ((B1.setCell (by show w.heap.size ≤ w.heap.size + 1; omega) _).setCell (by show w.heap.size ≤ w.heap.size + 1; omega) _).setCell (by show w.heap.size ≤ w.heap.size + 1; omega) _
end Go.Proofs.Ytahekhamhdfkdaa
