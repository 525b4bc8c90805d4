import Derived.Test.YtdjjphcfobbipaaRxX
/- Layer 7: Text, Number, Small, List. -/
namespace Go.Proofs.Ytdjjphcfobbipaa
open Go.RowKit Go.Sort
theorem Ot.stored {w1 : World} {t : Tr} {d q : Value} {rb B : Nat} (hO : Ot w1 t (fun k => B ≤ k) d q) (hrb : rb < B) (u0 u1 u2 : Value) : Ot (((w1.setCell ⟨rb, 0, none⟩ u0).setCell ⟨rb, 1, none⟩ u1).setCell ⟨rb, 2, none⟩ u2) t (fun k => B ≤ k) d q := by
  have hne : ∀ k, B ≤ k → k ≠ rb := fun k hk e => by omega
  refine Ot.conv _ (fun k _ hk => ⟨hk, ?_⟩) hO
  rw [heap_setCell_other _ _ _ _ (hne k hk), heap_setCell_other _ _ _ _ (hne k hk), heap_setCell_other _ _ _ _ (hne k hk)]
theorem Ot.base {W : World} {t : Tr} {d q : Value} {B B' : Nat} (h : Ot W t (fun k => B ≤ k) d q) (hB : B' ≤ B) : Ot W t (fun k => B' ≤ k) d q := Ot.conv _ (fun _ _ hk => ⟨Nat.le_trans hB hk, rfl⟩) h
theorem ot_text {W : World} {B : Nat} {v : Value} {X : List Int} (h : OwnB B W v X) : Ot W (.mk false X []) (fun k => B ≤ k) v (.slice none 0 0) := Ot.mk (row_base h fun _ _ => Nat.zero_le _) (fun k e => (h.lt k e).1) (Orow.nil _ _)
theorem ot_list {W : World} {B : Nat} {v : Value} {ts : List Tr} {ps : List (Value × Value)} (h : Oe B W v ts ps) : Ot W (.mk true [] ts) (fun k => B ≤ k) (.slice none 0 0) v := Ot.mk (OwnB.nil _ _) (fun k e => by cases e) h.row
theorem below_three {w w1 : World} {rb : Nat} (B : Below w.heap.size w w1) (h : w.heap.size ≤ rb) (u0 u1 u2 : Value) : Below w.heap.size w (((w1.setCell ⟨rb, 0, none⟩ u0).setCell ⟨rb, 1, none⟩ u1).setCell ⟨rb, 2, none⟩ u2) :=
  ((B.setCell (by exact h) _).setCell (by exact h) _).setCell (by exact h) _
/-- A block of three cells that may be written. -/
def Rb3 (W : World) (b : Nat) : Prop := Bx W b false (.slice none 0 0) (.slice none 0 0) ∧ Fr3 W b
theorem Rb3.keep {W w1 : World} {b : Nat} (x : Rb3 W b) (hb : Below W.heap.size W w1) : Rb3 w1 b := ⟨x.1.keep hb, x.2.keep x.1.lt hb⟩
set_option maxRecDepth 100000 in
set_option maxHeartbeats 4000000 in
theorem text_any {X : List Int} {a : Option Addr} {b o c n : Nat} (hn : n = X.length) (hl : X.length < 16777216) (ha : Az a b o X) (w : World) (hz : Bz w b o X) :
    Calls Try.prog 10 #[.slice a n c] w fun e w' => ∃ d q, e = .returned (itV (.mk false X []) d q) ∧ Ot w' (.mk false X []) (fun k => w.heap.size ≤ k) d q ∧ Below w.heap.size w w' := by
  have C : Hid (∀ W, Below w.heap.size w W → Calls Try.prog 41 #[.slice a n c] W fun e w' => ∃ v, e = .returned v ∧ OwnB W.heap.size w' v X ∧ Below W.heap.size W w') := fun W B => bclone_all hn (by omega) ha W (hz.keep B)
  clear hl ha hz hn
  unfold itV
  go_enter Try.func10, Try.ntmps10
  go_wp2_with ((with_reducible refine (C.out _ ((Below.refl w.heap.size w).alloc (Nat.le_refl _) _)).mono ?_); rintro e1 w1 ⟨v, rfl, O1, hw⟩; (obtain ⟨⟨r0, r1, r2⟩, f0, f1, f2⟩ : Rb3 w1 (w.heap.size) := Rb3.keep ⟨⟨by simp [go_sem], by simp [go_sem], by simp [go_sem]⟩, by simp [go_sem], by simp [go_sem], by simp [go_sem]⟩ hw); (have B1 : Below w.heap.size w w1 := ((Below.refl w.heap.size w).alloc (Nat.le_refl _) _).trans (hw.mono (by simp))); (obtain ⟨av, gv1, cv, rfl, _⟩ := O1.lies))
  simp [bodyPost, results, Try.results10, go_sem, r0, r1, r2]
  exact ⟨_, _, ⟨rfl, rfl, rfl⟩, Ot.base (B := w.heap.size + 1) (Ot.stored (ot_text (O1.base (by simp))) (by omega) _ _ _) (by omega), below_three B1 (by omega) _ _ _⟩
set_option maxRecDepth 100000 in
set_option maxHeartbeats 4000000 in
theorem rText_any {X : List Int} {a : Option Addr} {b o c n : Nat} (hn : n = X.length) (hl : X.length < 16777216) (ha : Az a b o X) (hnc : a = none → c = 0) (w : World) (hz : Bz w b o X) :
    Calls Try.prog 11 #[.slice a n c] w fun e w' => ∃ d q, e = .returned (itV (.mk false X []) d q) ∧ Ot w' (.mk false X []) (fun k => w.heap.size ≤ k) d q ∧ Below w.heap.size w w' := by
  have C : Hid (∀ W, Below w.heap.size w W → Calls Try.prog 40 #[.slice a n c] W fun e w' => ∃ v, e = .returned v ∧ OwnB W.heap.size w' v X ∧ Below W.heap.size W w') := fun W B => r7bytes_any hn (by omega) ha hnc W (hz.keep B)
  clear hl ha hz hnc hn
  unfold itV
  go_enter Try.func11, Try.ntmps11
  go_wp2_with ((with_reducible refine (C.out _ ((Below.refl w.heap.size w).alloc (Nat.le_refl _) _)).mono ?_); rintro e1 w1 ⟨v, rfl, O1, hw⟩; (obtain ⟨⟨r0, r1, r2⟩, f0, f1, f2⟩ : Rb3 w1 (w.heap.size) := Rb3.keep ⟨⟨by simp [go_sem], by simp [go_sem], by simp [go_sem]⟩, by simp [go_sem], by simp [go_sem], by simp [go_sem]⟩ hw); (have B1 : Below w.heap.size w w1 := ((Below.refl w.heap.size w).alloc (Nat.le_refl _) _).trans (hw.mono (by simp))); (obtain ⟨av, gv1, cv, rfl, _⟩ := O1.lies))
  simp [bodyPost, results, Try.results11, go_sem, r0, r1, r2]
  exact ⟨_, _, ⟨rfl, rfl, rfl⟩, Ot.base (B := w.heap.size + 1) (Ot.stored (ot_text (O1.base (by simp))) (by omega) _ _ _) (by omega), below_three B1 (by omega) _ _ _⟩
set_option maxRecDepth 100000 in
set_option maxHeartbeats 4000000 in
theorem number_any {n : Int} (hn : Num n) (w : World) :
    Calls Try.prog 12 #[.agg #[.int .u64 (l0 n), .int .u64 (l1 n), .int .u64 (l2 n), .int .u64 (l3 n)]] w fun e w' => ∃ d q, e = .returned (itV (.mk false (stripL (putL n)) []) d q) ∧ Ot w' (.mk false (stripL (putL n)) []) (fun k => w.heap.size ≤ k) d q ∧ Below w.heap.size w w' := by
  have C : Hid (∀ W, Below w.heap.size w W → Calls Try.prog 42 #[.agg #[.int .u64 (l0 n), .int .u64 (l1 n), .int .u64 (l2 n), .int .u64 (l3 n)]] W fun e w' => ∃ v, e = .returned v ∧ OwnB W.heap.size w' v (stripL (putL n)) ∧ Below W.heap.size W w') := fun W _ => bytes_any hn W
  generalize stripL (putL n) = X at *
  clear hn
  unfold itV
  go_enter Try.func12, Try.ntmps12
  go_wp2_with ((with_reducible refine (C.out _ (((Below.refl w.heap.size w).alloc (Nat.le_refl _) _).alloc (by simp) _)).mono ?_); rintro e1 w1 ⟨v, rfl, O1, hw⟩; (obtain ⟨⟨r0, r1, r2⟩, f0, f1, f2⟩ : Rb3 w1 (w.heap.size + 1) := Rb3.keep ⟨⟨by simp [go_sem], by simp [go_sem], by simp [go_sem]⟩, by simp [go_sem], by simp [go_sem], by simp [go_sem]⟩ hw); (have B1 : Below w.heap.size w w1 := (((Below.refl w.heap.size w).alloc (Nat.le_refl _) _).alloc (by simp) _).trans (hw.mono (by simp; omega))); (obtain ⟨av, gv1, cv, rfl, _⟩ := O1.lies))
  simp [bodyPost, results, Try.results12, go_sem, r0, r1, r2]
  exact ⟨_, _, ⟨rfl, rfl, rfl⟩, Ot.base (B := w.heap.size + 1 + 1) (Ot.stored (ot_text (O1.base (by simp))) (by omega) _ _ _) (by omega), below_three B1 (by omega) _ _ _⟩
set_option maxRecDepth 100000 in
set_option maxHeartbeats 4000000 in
theorem rNumber_any {n : Int} (w : World) :
    Calls Try.prog 13 #[.agg #[.int .u64 (l0 n), .int .u64 (l1 n), .int .u64 (l2 n), .int .u64 (l3 n)]] w fun e w' => ∃ d q, e = .returned (itV (.mk false (stripL (putL n)) []) d q) ∧ Ot w' (.mk false (stripL (putL n)) []) (fun k => w.heap.size ≤ k) d q ∧ Below w.heap.size w w' := by
  have C : Hid (∀ W, Below w.heap.size w W → Calls Try.prog 43 #[.agg #[.int .u64 (l0 n), .int .u64 (l1 n), .int .u64 (l2 n), .int .u64 (l3 n)]] W fun e w' => ∃ v, e = .returned v ∧ OwnB W.heap.size w' v (stripL (putL n)) ∧ Below W.heap.size W w') := fun W _ => rbytes_any W
  generalize stripL (putL n) = X at *
  unfold itV
  go_enter Try.func13, Try.ntmps13
  go_wp2_with ((with_reducible refine (C.out _ (((Below.refl w.heap.size w).alloc (Nat.le_refl _) _).alloc (by simp) _)).mono ?_); rintro e1 w1 ⟨v, rfl, O1, hw⟩; (obtain ⟨⟨r0, r1, r2⟩, f0, f1, f2⟩ : Rb3 w1 (w.heap.size + 1) := Rb3.keep ⟨⟨by simp [go_sem], by simp [go_sem], by simp [go_sem]⟩, by simp [go_sem], by simp [go_sem], by simp [go_sem]⟩ hw); (have B1 : Below w.heap.size w w1 := (((Below.refl w.heap.size w).alloc (Nat.le_refl _) _).alloc (by simp) _).trans (hw.mono (by simp; omega))); (obtain ⟨av, gv1, cv, rfl, _⟩ := O1.lies))
  simp [bodyPost, results, Try.results13, go_sem, r0, r1, r2]
  exact ⟨_, _, ⟨rfl, rfl, rfl⟩, Ot.base (B := w.heap.size + 1 + 1) (Ot.stored (ot_text (O1.base (by simp))) (by omega) _ _ _) (by omega), below_three B1 (by omega) _ _ _⟩
set_option maxRecDepth 100000 in
set_option maxHeartbeats 4000000 in
theorem small_any {v : Int} (hv : Word v) (w : World) :
    Calls Try.prog 14 #[.int .u64 v] w fun e w' => ∃ d q, e = .returned (itV (.mk false (stripL (putL v)) []) d q) ∧ Ot w' (.mk false (stripL (putL v)) []) (fun k => w.heap.size ≤ k) d q ∧ Below w.heap.size w w' := by
  have hm : Num v := by obtain ⟨h1, h2⟩ := hv; exact ⟨h1, by omega⟩
  have D : Hid (∀ W : World, Calls Try.prog 44 #[.int .u64 v] W fun e w' => e = .returned (.agg #[.int .u64 (l0 v), .int .u64 (l1 v), .int .u64 (l2 v), .int .u64 (l3 v)]) ∧ Below W.heap.size W w') := fun W => from_any hv W
  have C : Hid (∀ W : World, Calls Try.prog 12 #[.agg #[.int .u64 (l0 v), .int .u64 (l1 v), .int .u64 (l2 v), .int .u64 (l3 v)]] W fun e w' => ∃ d q, e = .returned (.agg #[.bool false, d, q]) ∧ Ot w' (.mk false (stripL (putL v)) []) (fun k => W.heap.size ≤ k) d q ∧ Below W.heap.size W w') := fun W => number_any hm W
  clear hv hm
  generalize stripL (putL v) = X at *
  unfold itV
  go_enter Try.func14, Try.ntmps14
  go_wp2_with (first
    | ((with_reducible refine (D.out _).mono ?_); rintro e0 w0 ⟨rfl, hw0⟩; (have R0 : Rb3 w0 w.heap.size := Rb3.keep ⟨⟨by simp [go_sem], by simp [go_sem], by simp [go_sem]⟩, by simp [go_sem], by simp [go_sem], by simp [go_sem]⟩ hw0); (have B0 : Below w.heap.size w w0 := ((Below.refl w.heap.size w).alloc (Nat.le_refl _) _).trans (hw0.mono (by simp))))
    | ((with_reducible refine (C.out _).mono ?_); rintro e1 w1 ⟨dd, qq, rfl, O1, hw⟩; (have hsl := (Ot.it _ O1).slices); (obtain ⟨s1, s2, s3, s4, s5, s6, rfl, rfl⟩ := hsl); (obtain ⟨⟨r0, r1, r2⟩, f0, f1, f2⟩ := R0.keep hw); (have B1 := B0.trans (hw.mono B0.size))))
  simp [bodyPost, results, Try.results14, go_sem, r0, r1, r2]
  have hlt := R0.1.lt
  exact ⟨_, _, ⟨rfl, rfl, rfl⟩, Ot.base (B := w.heap.size + 1) (Ot.stored (Ot.base O1 (by omega)) (by omega) _ _ _) (by omega), below_three B1 (by omega) _ _ _⟩
set_option maxRecDepth 100000 in
set_option maxHeartbeats 4000000 in
theorem rSmall_any {v : Int} (hv : Word v) (w : World) :
    Calls Try.prog 15 #[.int .u64 v] w fun e w' => ∃ d q, e = .returned (itV (.mk false (stripL (putL v)) []) d q) ∧ Ot w' (.mk false (stripL (putL v)) []) (fun k => w.heap.size ≤ k) d q ∧ Below w.heap.size w w' := by
  have hm : Num v := by obtain ⟨h1, h2⟩ := hv; exact ⟨h1, by omega⟩
  have D : Hid (∀ W : World, Calls Try.prog 45 #[.int .u64 v] W fun e w' => e = .returned (.agg #[.int .u64 (l0 v), .int .u64 (l1 v), .int .u64 (l2 v), .int .u64 (l3 v)]) ∧ Below W.heap.size W w') := fun W => rfrom_any hv W
  have C : Hid (∀ W : World, Calls Try.prog 13 #[.agg #[.int .u64 (l0 v), .int .u64 (l1 v), .int .u64 (l2 v), .int .u64 (l3 v)]] W fun e w' => ∃ d q, e = .returned (.agg #[.bool false, d, q]) ∧ Ot w' (.mk false (stripL (putL v)) []) (fun k => W.heap.size ≤ k) d q ∧ Below W.heap.size W w') := fun W => rNumber_any W
  clear hv hm
  generalize stripL (putL v) = X at *
  unfold itV
  go_enter Try.func15, Try.ntmps15
  go_wp2_with (first
    | ((with_reducible refine (D.out _).mono ?_); rintro e0 w0 ⟨rfl, hw0⟩; (have R0 : Rb3 w0 w.heap.size := Rb3.keep ⟨⟨by simp [go_sem], by simp [go_sem], by simp [go_sem]⟩, by simp [go_sem], by simp [go_sem], by simp [go_sem]⟩ hw0); (have B0 : Below w.heap.size w w0 := ((Below.refl w.heap.size w).alloc (Nat.le_refl _) _).trans (hw0.mono (by simp))))
    | ((with_reducible refine (C.out _).mono ?_); rintro e1 w1 ⟨dd, qq, rfl, O1, hw⟩; (have hsl := (Ot.it _ O1).slices); (obtain ⟨s1, s2, s3, s4, s5, s6, rfl, rfl⟩ := hsl); (obtain ⟨⟨r0, r1, r2⟩, f0, f1, f2⟩ := R0.keep hw); (have B1 := B0.trans (hw.mono B0.size))))
  simp [bodyPost, results, Try.results15, go_sem, r0, r1, r2]
  have hlt := R0.1.lt
  exact ⟨_, _, ⟨rfl, rfl, rfl⟩, Ot.base (B := w.heap.size + 1) (Ot.stored (Ot.base O1 (by omega)) (by omega) _ _ _) (by omega), below_three B1 (by omega) _ _ _⟩
set_option maxRecDepth 100000 in
set_option maxHeartbeats 4000000 in
theorem list_any {ts : List Tr} {a : Option Addr} {b o c : Nat} (hl : wtS ts < 4194304) (ha : ts = [] ∨ a = some ⟨b, o, none⟩) (w : World) (hz : Its w b o ts) :
    Calls Try.prog 16 #[.slice a ts.length c] w fun e w' => ∃ d q, e = .returned (itV (.mk true [] ts) d q) ∧ Ot w' (.mk true [] ts) (fun k => w.heap.size ≤ k) d q ∧ Below w.heap.size w w' := by
  have C : Hid (∀ W, Below w.heap.size w W → Calls Try.prog 46 #[.slice a ts.length c] W fun e w' => ∃ v ps, e = .returned v ∧ Oe W.heap.size w' v ts ps ∧ Below W.heap.size W w') := fun W B => copies_any (.mk true [] ts) (by exact hl) ha W (hz.keep B)
  clear hl ha hz
  unfold itV
  go_enter Try.func16, Try.ntmps16
  go_wp2_with ((with_reducible refine (C.out _ ((Below.refl w.heap.size w).alloc (Nat.le_refl _) _)).mono ?_); rintro e1 w1 ⟨v, ps, rfl, O1, hw⟩; (obtain ⟨⟨r0, r1, r2⟩, f0, f1, f2⟩ : Rb3 w1 (w.heap.size) := Rb3.keep ⟨⟨by simp [go_sem], by simp [go_sem], by simp [go_sem]⟩, by simp [go_sem], by simp [go_sem], by simp [go_sem]⟩ hw); (have B1 : Below w.heap.size w w1 := ((Below.refl w.heap.size w).alloc (Nat.le_refl _) _).trans (hw.mono (by simp))); (obtain ⟨av, gv1, cv, rfl, _⟩ := O1.row.its))
  simp [bodyPost, results, Try.results16, go_sem, r0, r1, r2]
  exact ⟨_, _, ⟨rfl, rfl, rfl⟩, Ot.base (B := w.heap.size + 1) (Ot.stored (ot_list (O1.row.oe (fun k _ hk => by simpa using hk)).choose_spec) (by omega) _ _ _) (by omega), below_three B1 (by omega) _ _ _⟩
set_option maxRecDepth 100000 in
set_option maxHeartbeats 4000000 in
theorem rList_any {ts : List Tr} {a : Option Addr} {b o c : Nat} (hl : wtS ts < 4194304) (ha : ts = [] ∨ a = some ⟨b, o, none⟩) (w : World) (hz : Its w b o ts) :
    Calls Try.prog 17 #[.slice a ts.length c] w fun e w' => ∃ d q, e = .returned (itV (.mk true [] ts) d q) ∧ Ot w' (.mk true [] ts) (fun k => w.heap.size ≤ k) d q ∧ Below w.heap.size w w' := by
  have C : Hid (∀ W, Below w.heap.size w W → Calls Try.prog 8 #[.slice a ts.length c] W fun e w' => ∃ v ps, e = .returned v ∧ Oe W.heap.size w' v ts ps ∧ Below W.heap.size W w') := fun W B => rCopy_any (.mk true [] ts) (by exact hl) ha W (hz.keep B)
  clear hl ha hz
  unfold itV
  go_enter Try.func17, Try.ntmps17
  go_wp2_with ((with_reducible refine (C.out _ ((Below.refl w.heap.size w).alloc (Nat.le_refl _) _)).mono ?_); rintro e1 w1 ⟨v, ps, rfl, O1, hw⟩; (obtain ⟨⟨r0, r1, r2⟩, f0, f1, f2⟩ : Rb3 w1 (w.heap.size) := Rb3.keep ⟨⟨by simp [go_sem], by simp [go_sem], by simp [go_sem]⟩, by simp [go_sem], by simp [go_sem], by simp [go_sem]⟩ hw); (have B1 : Below w.heap.size w w1 := ((Below.refl w.heap.size w).alloc (Nat.le_refl _) _).trans (hw.mono (by simp))); (obtain ⟨av, gv1, cv, rfl, _⟩ := O1.row.its))
  simp [bodyPost, results, Try.results17, go_sem, r0, r1, r2]
  exact ⟨_, _, ⟨rfl, rfl, rfl⟩, Ot.base (B := w.heap.size + 1) (Ot.stored (ot_list (O1.row.oe (fun k _ hk => by simpa using hk)).choose_spec) (by omega) _ _ _) (by omega), below_three B1 (by omega) _ _ _⟩
end Go.Proofs.Ytdjjphcfobbipaa
