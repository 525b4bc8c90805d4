import Derived.Test.YtaefmdofchjofaaRxW
import Derived.Test.YtaefmdofchjofaaRsE
/- Layer 7: Text, Number, Small, List. -/
namespace Go.Proofs.Ytaefmdofchjofaa
open Go.RowKit Go.Sort
theorem Ot.stored {w1 : World} {t : Tr} {d q : Value} {rb B : Nat} (hO : Ot w1 t (fun k => B ≤ k) d q) (hrb : rb < B) (u0 u1 u2 : Value) : Ot (((w1.setCell ⟨rb, 0, none⟩ u0).setCell ⟨rb, 1, none⟩ u1).setCell ⟨rb, 2, none⟩ u2) t (fun k => B ≤ k) d q := by
  have hne : ∀ k, B ≤ k → k ≠ rb := fun k hk e => by omega
  refine Ot.conv _ (fun k _ hk => ⟨hk, ?_⟩) hO
  rw [heap_setCell_other _ _ _ _ (hne k hk), heap_setCell_other _ _ _ _ (hne k hk), heap_setCell_other _ _ _ _ (hne k hk)]
theorem Ot.base {W : World} {t : Tr} {d q : Value} {B B' : Nat} (h : Ot W t (fun k => B ≤ k) d q) (hB : B' ≤ B) : Ot W t (fun k => B' ≤ k) d q := Ot.conv _ (fun _ _ hk => ⟨Nat.le_trans hB hk, rfl⟩) h
theorem ot_text {W : World} {B : Nat} {v : Value} {X : List Int} (h : OwnB B W v X) : Ot W (.mk false X []) (fun k => B ≤ k) v (.slice none 0 0) := Ot.mk (row_base h fun _ _ => Nat.zero_le _) (fun k e => (h.lt k e).1) (Orow.nil _ _)
theorem ot_list {W : World} {B : Nat} {v : Value} {ts : List Tr} {ps : List (Value × Value)} (h : Oe B W v ts ps) : Ot W (.mk true [] ts) (fun k => B ≤ k) (.slice none 0 0) v := Ot.mk (OwnB.nil _ _) (fun k e => by cases e) h.row
theorem below_three {w w1 : World} {rb : Nat} (B : Below w.heap.size w w1) (h : w.heap.size ≤ rb) (u0 u1 u2 : Value) : Below w.heap.size w (((w1.setCell ⟨rb, 0, none⟩ u0).setCell ⟨rb, 1, none⟩ u1).setCell ⟨rb, 2, none⟩ u2) :=
  ((B.setCell (by exact h) _).setCell (by exact h) _).setCell (by exact h) _
/-- A block of three cells that may be written. -/
def Rb3 (W : World) (b : Nat) : Prop := Bx W b false (.slice none 0 0) (.slice none 0 0) ∧ Fr3 W b
theorem Rb3.keep {W w1 : World} {b : Nat} (x : Rb3 W b) (hb : Below W.heap.size W w1) : Rb3 w1 b := ⟨x.1.keep hb, x.2.keep x.1.lt hb⟩
set_option maxRecDepth 100000 in
set_option maxHeartbeats 4000000 in
theorem text_any {X : List Int} {a : Option Addr} {b o c n : Nat} (hn : n = X.length) (hl : X.length < 16777216) (ha : Az a b o X) (w : World) (hz : Bz w b o X) :
    Calls Try.prog 18 #[.slice a n c] w fun e w' => ∃ d q, e = .returned (itV (.mk false X []) d q) ∧ Ot w' (.mk false X []) (fun k => w.heap.size ≤ k) d q ∧ Below w.heap.size w w' := by
  have C : Hid (∀ W, Below w.heap.size w W → Calls Try.prog 37 #[.slice a n c] W fun e w' => ∃ v, e = .returned v ∧ OwnB W.heap.size w' v X ∧ Below W.heap.size W w') := fun W B => bclone_all hn (by omega) ha W (hz.keep B)
  clear hl ha hz hn
  unfold itV
  go_enter Try.func18, Try.ntmps18
  go_wp2_with ((with_reducible refine (C.out _ ((Below.refl w.heap.size w).alloc (Nat.le_refl _) _)).mono ?_); rintro e1 w1 ⟨v, rfl, O1, hw⟩; (obtain ⟨⟨r0, r1, r2⟩, f0, f1, f2⟩ : Rb3 w1 (w.heap.size) := Rb3.keep ⟨⟨by simp [go_sem], by simp [go_sem], by simp [go_sem]⟩, by simp [go_sem], by simp [go_sem], by simp [go_sem]⟩ hw); (have B1 : Below w.heap.size w w1 := ((Below.refl w.heap.size w).alloc (Nat.le_refl _) _).trans (hw.mono (by simp))); (obtain ⟨av, gv1, cv, rfl, _⟩ := O1.lies))
  simp [bodyPost, results, Try.results18, go_sem, r0, r1, r2]
  exact ⟨_, _, ⟨rfl, rfl, rfl⟩, Ot.base (B := w.heap.size + 1) (Ot.stored (ot_text (O1.base (by simp))) (by omega) _ _ _) (by omega), below_three B1 (by omega) _ _ _⟩
set_option maxRecDepth 100000 in
set_option maxHeartbeats 4000000 in
theorem rText_any {X : List Int} {a : Option Addr} {b o c n : Nat} (hn : n = X.length) (hl : X.length < 16777216) (ha : Az a b o X) (hnc : a = none → c = 0) (w : World) (hz : Bz w b o X) :
    Calls Try.prog 21 #[.slice a n c] w fun e w' => ∃ d q, e = .returned (itV (.mk false X []) d q) ∧ Ot w' (.mk false X []) (fun k => w.heap.size ≤ k) d q ∧ Below w.heap.size w w' := by
  have C : Hid (∀ W, Below w.heap.size w W → Calls Try.prog 40 #[.slice a n c] W fun e w' => ∃ v, e = .returned v ∧ OwnB W.heap.size w' v X ∧ Below W.heap.size W w') := fun W B => r7bytes_any hn (by omega) ha hnc W (hz.keep B)
  clear hl ha hz hnc hn
  unfold itV
  go_enter Try.func21, Try.ntmps21
  go_wp2_with ((with_reducible refine (C.out _ ((Below.refl w.heap.size w).alloc (Nat.le_refl _) _)).mono ?_); rintro e1 w1 ⟨v, rfl, O1, hw⟩; (obtain ⟨⟨r0, r1, r2⟩, f0, f1, f2⟩ : Rb3 w1 (w.heap.size) := Rb3.keep ⟨⟨by simp [go_sem], by simp [go_sem], by simp [go_sem]⟩, by simp [go_sem], by simp [go_sem], by simp [go_sem]⟩ hw); (have B1 : Below w.heap.size w w1 := ((Below.refl w.heap.size w).alloc (Nat.le_refl _) _).trans (hw.mono (by simp))); (obtain ⟨av, gv1, cv, rfl, _⟩ := O1.lies))
  simp [bodyPost, results, Try.results21, go_sem, r0, r1, r2]
  exact ⟨_, _, ⟨rfl, rfl, rfl⟩, Ot.base (B := w.heap.size + 1) (Ot.stored (ot_text (O1.base (by simp))) (by omega) _ _ _) (by omega), below_three B1 (by omega) _ _ _⟩
set_option maxRecDepth 100000 in
set_option maxHeartbeats 4000000 in
theorem numbT_any {n : Int} (hn : Num n) (w : World) :
    Calls Try.prog 17 #[.agg #[.int .u64 (l0 n), .int .u64 (l1 n), .int .u64 (l2 n), .int .u64 (l3 n)]] w fun e w' => ∃ d q, e = .returned (itV (.mk false (stripL (putL n)) []) d q) ∧ Ot w' (.mk false (stripL (putL n)) []) (fun k => w.heap.size ≤ k) d q ∧ Below w.heap.size w w' := by
  have C : Hid (∀ W, Below w.heap.size w W → Calls Try.prog 36 #[.agg #[.int .u64 (l0 n), .int .u64 (l1 n), .int .u64 (l2 n), .int .u64 (l3 n)]] W fun e w' => ∃ v, e = .returned v ∧ OwnB W.heap.size w' v (stripL (putL n)) ∧ Below W.heap.size W w') := fun W _ => bytes_any hn W
  generalize stripL (putL n) = X at *
  clear hn
  unfold itV
  go_enter Try.func17, Try.ntmps17
  go_wp2_with ((with_reducible refine (C.out _ (((Below.refl w.heap.size w).alloc (Nat.le_refl _) _).alloc (by simp) _)).mono ?_); rintro e1 w1 ⟨v, rfl, O1, hw⟩; (obtain ⟨⟨r0, r1, r2⟩, f0, f1, f2⟩ : Rb3 w1 (w.heap.size + 1) := Rb3.keep ⟨⟨by simp [go_sem], by simp [go_sem], by simp [go_sem]⟩, by simp [go_sem], by simp [go_sem], by simp [go_sem]⟩ hw); (have B1 : Below w.heap.size w w1 := (((Below.refl w.heap.size w).alloc (Nat.le_refl _) _).alloc (by simp) _).trans (hw.mono (by simp; omega))); (obtain ⟨av, gv1, cv, rfl, _⟩ := O1.lies))
  simp [bodyPost, results, Try.results17, go_sem, r0, r1, r2]
  exact ⟨_, _, ⟨rfl, rfl, rfl⟩, Ot.base (B := w.heap.size + 1 + 1) (Ot.stored (ot_text (O1.base (by simp))) (by omega) _ _ _) (by omega), below_three B1 (by omega) _ _ _⟩
set_option maxRecDepth 100000 in
set_option maxHeartbeats 4000000 in
theorem rNumber_any {n : Int} (w : World) :
    Calls Try.prog 20 #[.agg #[.int .u64 (l0 n), .int .u64 (l1 n), .int .u64 (l2 n), .int .u64 (l3 n)]] w fun e w' => ∃ d q, e = .returned (itV (.mk false (stripL (putL n)) []) d q) ∧ Ot w' (.mk false (stripL (putL n)) []) (fun k => w.heap.size ≤ k) d q ∧ Below w.heap.size w w' := by
  have C : Hid (∀ W, Below w.heap.size w W → Calls Try.prog 39 #[.agg #[.int .u64 (l0 n), .int .u64 (l1 n), .int .u64 (l2 n), .int .u64 (l3 n)]] W fun e w' => ∃ v, e = .returned v ∧ OwnB W.heap.size w' v (stripL (putL n)) ∧ Below W.heap.size W w') := fun W _ => rbytes_any W
  generalize stripL (putL n) = X at *
  unfold itV
  go_enter Try.func20, Try.ntmps20
  go_wp2_with ((with_reducible refine (C.out _ (((Below.refl w.heap.size w).alloc (Nat.le_refl _) _).alloc (by simp) _)).mono ?_); rintro e1 w1 ⟨v, rfl, O1, hw⟩; (obtain ⟨⟨r0, r1, r2⟩, f0, f1, f2⟩ : Rb3 w1 (w.heap.size + 1) := Rb3.keep ⟨⟨by simp [go_sem], by simp [go_sem], by simp [go_sem]⟩, by simp [go_sem], by simp [go_sem], by simp [go_sem]⟩ hw); (have B1 : Below w.heap.size w w1 := (((Below.refl w.heap.size w).alloc (Nat.le_refl _) _).alloc (by simp) _).trans (hw.mono (by simp; omega))); (obtain ⟨av, gv1, cv, rfl, _⟩ := O1.lies))
  simp [bodyPost, results, Try.results20, go_sem, r0, r1, r2]
  exact ⟨_, _, ⟨rfl, rfl, rfl⟩, Ot.base (B := w.heap.size + 1 + 1) (Ot.stored (ot_text (O1.base (by simp))) (by omega) _ _ _) (by omega), below_three B1 (by omega) _ _ _⟩
set_option maxRecDepth 100000 in
set_option maxHeartbeats 4000000 in
theorem small_any {v : Int} (hv : Word v) (w : World) :
    Calls Try.prog 16 #[.int .u64 v] w fun e w' => ∃ d q, e = .returned (itV (.mk false (stripL (putL v)) []) d q) ∧ Ot w' (.mk false (stripL (putL v)) []) (fun k => w.heap.size ≤ k) d q ∧ Below w.heap.size w w' := by
  have hm : Num v := by obtain ⟨h1, h2⟩ := hv; exact ⟨h1, by omega⟩
  have D : Hid (∀ W : World, Calls Try.prog 35 #[.int .u64 v] W fun e w' => e = .returned (.agg #[.int .u64 (l0 v), .int .u64 (l1 v), .int .u64 (l2 v), .int .u64 (l3 v)]) ∧ Below W.heap.size W w') := fun W => from_any hv W
  have C : Hid (∀ W : World, Calls Try.prog 17 #[.agg #[.int .u64 (l0 v), .int .u64 (l1 v), .int .u64 (l2 v), .int .u64 (l3 v)]] W fun e w' => ∃ d q, e = .returned (.agg #[.bool false, d, q]) ∧ Ot w' (.mk false (stripL (putL v)) []) (fun k => W.heap.size ≤ k) d q ∧ Below W.heap.size W w') := fun W => numbT_any hm W
  clear hv hm
  generalize stripL (putL v) = X at *
  unfold itV
  go_enter Try.func16, Try.ntmps16
  go_wp2_with (first
    | ((with_reducible refine (D.out _).mono ?_); rintro e0 w0 ⟨rfl, hw0⟩; (have R0 : Rb3 w0 w.heap.size := Rb3.keep ⟨⟨by simp [go_sem], by simp [go_sem], by simp [go_sem]⟩, by simp [go_sem], by simp [go_sem], by simp [go_sem]⟩ hw0); (have B0 : Below w.heap.size w w0 := ((Below.refl w.heap.size w).alloc (Nat.le_refl _) _).trans (hw0.mono (by simp))))
    | ((with_reducible refine (C.out _).mono ?_); rintro e1 w1 ⟨dd, qq, rfl, O1, hw⟩; (have hsl := (Ot.it _ O1).slices); (obtain ⟨s1, s2, s3, s4, s5, s6, rfl, rfl⟩ := hsl); (obtain ⟨⟨r0, r1, r2⟩, f0, f1, f2⟩ := R0.keep hw); (have B1 := B0.trans (hw.mono B0.size))))
  simp [bodyPost, results, Try.results16, go_sem, r0, r1, r2]
  have hlt := R0.1.lt
  exact ⟨_, _, ⟨rfl, rfl, rfl⟩, Ot.base (B := w.heap.size + 1) (Ot.stored (Ot.base O1 (by omega)) (by omega) _ _ _) (by omega), below_three B1 (by omega) _ _ _⟩
set_option maxRecDepth 100000 in
set_option maxHeartbeats 4000000 in
theorem rSmall_any {v : Int} (hv : Word v) (w : World) :
    Calls Try.prog 19 #[.int .u64 v] w fun e w' => ∃ d q, e = .returned (itV (.mk false (stripL (putL v)) []) d q) ∧ Ot w' (.mk false (stripL (putL v)) []) (fun k => w.heap.size ≤ k) d q ∧ Below w.heap.size w w' := by
  have hm : Num v := by obtain ⟨h1, h2⟩ := hv; exact ⟨h1, by omega⟩
  have D : Hid (∀ W : World, Calls Try.prog 38 #[.int .u64 v] W fun e w' => e = .returned (.agg #[.int .u64 (l0 v), .int .u64 (l1 v), .int .u64 (l2 v), .int .u64 (l3 v)]) ∧ Below W.heap.size W w') := fun W => rfrom_any hv W
  have C : Hid (∀ W : World, Calls Try.prog 20 #[.agg #[.int .u64 (l0 v), .int .u64 (l1 v), .int .u64 (l2 v), .int .u64 (l3 v)]] W fun e w' => ∃ d q, e = .returned (.agg #[.bool false, d, q]) ∧ Ot w' (.mk false (stripL (putL v)) []) (fun k => W.heap.size ≤ k) d q ∧ Below W.heap.size W w') := fun W => rNumber_any W
  clear hv hm
  generalize stripL (putL v) = X at *
  unfold itV
  go_enter Try.func19, Try.ntmps19
  go_wp2_with (first
    | ((with_reducible refine (D.out _).mono ?_); rintro e0 w0 ⟨rfl, hw0⟩; (have R0 : Rb3 w0 w.heap.size := Rb3.keep ⟨⟨by simp [go_sem], by simp [go_sem], by simp [go_sem]⟩, by simp [go_sem], by simp [go_sem], by simp [go_sem]⟩ hw0); (have B0 : Below w.heap.size w w0 := ((Below.refl w.heap.size w).alloc (Nat.le_refl _) _).trans (hw0.mono (by simp))))
    | ((with_reducible refine (C.out _).mono ?_); rintro e1 w1 ⟨dd, qq, rfl, O1, hw⟩; (have hsl := (Ot.it _ O1).slices); (obtain ⟨s1, s2, s3, s4, s5, s6, rfl, rfl⟩ := hsl); (obtain ⟨⟨r0, r1, r2⟩, f0, f1, f2⟩ := R0.keep hw); (have B1 := B0.trans (hw.mono B0.size))))
  simp [bodyPost, results, Try.results19, go_sem, r0, r1, r2]
  have hlt := R0.1.lt
  exact ⟨_, _, ⟨rfl, rfl, rfl⟩, Ot.base (B := w.heap.size + 1) (Ot.stored (Ot.base O1 (by omega)) (by omega) _ _ _) (by omega), below_three B1 (by omega) _ _ _⟩
set_option maxRecDepth 100000 in
set_option maxHeartbeats 4000000 in
theorem list_any {ts : List Tr} {a : Option Addr} {b o c : Nat} (hl : wtS ts < 4194304) (ha : ts = [] ∨ a = some ⟨b, o, none⟩) (w : World) (hz : Its w b o ts) :
    Calls Try.prog 15 #[.slice a ts.length c] w fun e w' => ∃ d q, e = .returned (itV (.mk true [] ts) d q) ∧ Ot w' (.mk true [] ts) (fun k => w.heap.size ≤ k) d q ∧ Below w.heap.size w w' := by
  have C : Hid (∀ W, Below w.heap.size w W → Calls Try.prog 34 #[.slice a ts.length c] W fun e w' => ∃ v ps, e = .returned v ∧ Oe W.heap.size w' v ts ps ∧ Below W.heap.size W w') := fun W B => copies_any (.mk true [] ts) (by exact hl) ha W (hz.keep B)
  clear hl ha hz
  unfold itV
  go_enter Try.func15, Try.ntmps15
  go_wp2_with ((with_reducible refine (C.out _ ((Below.refl w.heap.size w).alloc (Nat.le_refl _) _)).mono ?_); rintro e1 w1 ⟨v, ps, rfl, O1, hw⟩; (obtain ⟨⟨r0, r1, r2⟩, f0, f1, f2⟩ : Rb3 w1 (w.heap.size) := Rb3.keep ⟨⟨by simp [go_sem], by simp [go_sem], by simp [go_sem]⟩, by simp [go_sem], by simp [go_sem], by simp [go_sem]⟩ hw); (have B1 : Below w.heap.size w w1 := ((Below.refl w.heap.size w).alloc (Nat.le_refl _) _).trans (hw.mono (by simp))); (obtain ⟨av, gv1, cv, rfl, _⟩ := O1.row.its))
  simp [bodyPost, results, Try.results15, go_sem, r0, r1, r2]
  exact ⟨_, _, ⟨rfl, rfl, rfl⟩, Ot.base (B := w.heap.size + 1) (Ot.stored (ot_list (O1.row.oe (fun k _ hk => by simpa using hk)).choose_spec) (by omega) _ _ _) (by omega), below_three B1 (by omega) _ _ _⟩
set_option maxRecDepth 100000 in
set_option maxHeartbeats 4000000 in
theorem rList_any {ts : List Tr} {a : Option Addr} {b o c : Nat} (hl : wtS ts < 4194304) (ha : ts = [] ∨ a = some ⟨b, o, none⟩) (w : World) (hz : Its w b o ts) :
    Calls Try.prog 23 #[.slice a ts.length c] w fun e w' => ∃ d q, e = .returned (itV (.mk true [] ts) d q) ∧ Ot w' (.mk true [] ts) (fun k => w.heap.size ≤ k) d q ∧ Below w.heap.size w w' := by
  have C : Hid (∀ W, Below w.heap.size w W → Calls Try.prog 42 #[.slice a ts.length c] W fun e w' => ∃ v ps, e = .returned v ∧ Oe W.heap.size w' v ts ps ∧ Below W.heap.size W w') := fun W B => rCopy_any (.mk true [] ts) (by exact hl) ha W (hz.keep B)
  clear hl ha hz
  unfold itV
  go_enter Try.func23, Try.ntmps23
  go_wp2_with ((with_reducible refine (C.out _ ((Below.refl w.heap.size w).alloc (Nat.le_refl _) _)).mono ?_); rintro e1 w1 ⟨v, ps, rfl, O1, hw⟩; (obtain ⟨⟨r0, r1, r2⟩, f0, f1, f2⟩ : Rb3 w1 (w.heap.size) := Rb3.keep ⟨⟨by simp [go_sem], by simp [go_sem], by simp [go_sem]⟩, by simp [go_sem], by simp [go_sem], by simp [go_sem]⟩ hw); (have B1 : Below w.heap.size w w1 := ((Below.refl w.heap.size w).alloc (Nat.le_refl _) _).trans (hw.mono (by simp))); (obtain ⟨av, gv1, cv, rfl, _⟩ := O1.row.its))
  simp [bodyPost, results, Try.results23, go_sem, r0, r1, r2]
  exact ⟨_, _, ⟨rfl, rfl, rfl⟩, Ot.base (B := w.heap.size + 1) (Ot.stored (ot_list (O1.row.oe (fun k _ hk => by simpa using hk)).choose_spec) (by omega) _ _ _) (by omega), below_three B1 (by omega) _ _ _⟩
end Go.Proofs.Ytaefmdofchjofaa

/- Layer 7: GetSmall, GetNumber of any slice. -/
namespace Go.Proofs.Ytaefmdofchjofaa
open Go.RowKit Go.Sort
set_option maxRecDepth 100000 in
set_option maxHeartbeats 4000000 in
theorem getNumber_allS {l : Bool} {X : List Int} {ts : List Tr} {a1 a2 : Option Addr} {b o c1 c2 : Nat} (k : Nat) (hk : k ≤ 32) (hX : Byts X) (ha : Az a1 b o X) (w : World) (hz : Bz w b o X) :
    Calls Try.prog 44 #[.agg #[.bool l, .slice a1 X.length c1, .slice a2 ts.length c2], .int .i64 (k : Int)] w fun e w' => e = .returned (.tuple #[.agg #[.int .u64 (l0 (numV l X ts k)), .int .u64 (l1 (numV l X ts k)), .int .u64 (l2 (numV l X ts k)), .int .u64 (l3 (numV l X ts k))], .int .i64 (numE l X ts k)]) ∧ Below w.heap.size w w' := by
  have C : Hid (∀ w, Calls Try.prog 62 #[.agg #[.bool l, .slice a1 X.length c1, .slice a2 ts.length c2], .bool false] w fun e w' => e = .returned (.int .i64 (wantE l X ts false)) ∧ Below w.heap.size w w') := fun w => checkKind_any w
  have D : Hid (∀ W, Below w.heap.size w W → Calls Try.prog 63 #[.slice a1 X.length c1] W fun e w' => e = .returned (.tuple #[.agg #[.int .u64 (l0 (sv X)), .int .u64 (l1 (sv X)), .int .u64 (l2 (sv X)), .int .u64 (l3 (sv X))], .int .i64 (se X)]) ∧ Below W.heap.size W w') := fun W B => strict_az hX ha W (hz.keep B)
  clear hz hX ha
  by_cases hE : wantE l X ts false = 0
  · rw [hE] at C
    by_cases h1 : k < X.length
    · rw [(num_long hE h1).1, (num_long hE h1).2]
      have h1' : (k : Int) < (X.length : Int) := by omega
      clear D hE h1 hk
      obtain ⟨z0, z1, z2, z3⟩ := zero_limbs
      rw [z0, z1, z2, z3]
      clear z0 z1 z2 z3
      generalize X.length = n at *
      generalize ts.length = m at *
      go_enter Try.func44, Try.ntmps44
      go_wp2_with ((with_reducible refine (C.out _).mono ?_); rintro e1 w1 ⟨rfl, hw⟩; (have B1 : Below w.heap.size w w1 := (((Below.refl w.heap.size w).alloc (Nat.le_refl _) _).alloc (by simp) _).trans (hw.mono (by simp; omega))); (obtain ⟨x0, x1, x2⟩ : Bx w1 w.heap.size l (.slice a1 n c1) (.slice a2 m c2) := Bx.keep ⟨by simp [go_sem], by simp [go_sem], by simp [go_sem]⟩ hw); (obtain ⟨r0, r1, r2, r3, f0, f1, f2, f3⟩ : Rz w1 (w.heap.size + 1) := Rz.keep ⟨by simp [go_sem], by simp [go_sem], by simp [go_sem], by simp [go_sem], by simp [go_sem], by simp [go_sem], by simp [go_sem], by simp [go_sem]⟩ (by simp) hw))
      simp [bodyPost, results, Try.results44, go_sem, r0, r1, r2, r3]
      exact below_four B1 _ _ _ _
    · have h1' : ¬ ((k : Int) < (X.length : Int)) := by omega
      have h1'' : decide ((k : Int) < (X.length : Int)) = false := decide_eq_false h1'
      have h32 : X.length ≤ 32 := by omega
      by_cases h2 : X ≠ [] ∧ X.getD 0 0 = 0
      · rw [(num_lead hE h1 h2).1, (num_lead hE h1 h2).2]
        have es : se X = 13 := by unfold se; rw [if_pos h32, if_pos h2]
        have ev : sv X = 0 := by unfold sv; rw [if_pos h32, if_pos h2]
        rw [es, ev] at D
        obtain ⟨z0, z1, z2, z3⟩ := zero_limbs
        rw [z0, z1, z2, z3] at D ⊢
        clear z0 z1 z2 z3 es ev h2 h32 h1' h1'' hE hk
        generalize X.length = n at *
        generalize ts.length = m at *
        go_enter Try.func44, Try.ntmps44
        refine wp_seq_k fun K h => ?_
        have H : Hid _ := h
        clear h
        go_wp2_with fail
        refine H.out _ _ ?_
        clear H K
        refine wp_seq_k fun K h => ?_
        have H : Hid _ := h
        clear h
        go_wp2_with ((with_reducible refine (C.out _).mono ?_); rintro e1 w1 ⟨rfl, hw⟩; (have B1 : Below w.heap.size w w1 := (((Below.refl w.heap.size w).alloc (Nat.le_refl _) _).alloc (by simp) _).trans (hw.mono (by simp; omega))); (obtain ⟨x0, x1, x2⟩ : Bx w1 w.heap.size l (.slice a1 n c1) (.slice a2 m c2) := Bx.keep ⟨by simp [go_sem], by simp [go_sem], by simp [go_sem]⟩ hw); (obtain ⟨r0, r1, r2, r3, f0, f1, f2, f3⟩ : Rz w1 (w.heap.size + 1) := Rz.keep ⟨by simp [go_sem], by simp [go_sem], by simp [go_sem], by simp [go_sem], by simp [go_sem], by simp [go_sem], by simp [go_sem], by simp [go_sem]⟩ (by simp) hw))
        refine H.out _ _ ?_
        clear H K
        refine wp_seq_k fun K h => ?_
        have H : Hid _ := h
        clear h
        go_wp2_with fail
        refine H.out _ _ ?_
        clear H K
        refine wp_seq_k fun K h => ?_
        have H : Hid _ := h
        clear h
        go_wp2_with ((with_reducible refine (D.out _ B1).mono ?_); rintro e2 w2 ⟨rfl, hw2⟩)
        refine H.out _ _ ?_
        clear H K
        have Q2 : Rz w2 (w.heap.size + 1) := Rz.keep ⟨r0, r1, r2, r3, f0, f1, f2, f3⟩ (World.block_lt_of_cell? _ _ r0) hw2
        have B2 := B1.trans (hw2.mono B1.size)
        refine wp_world (fun U => Below w.heap.size w U ∧ Rz U (w.heap.size + 1) ∧ U.cell? ⟨w2.heap.size, 0, none⟩ = some (.int .u64 (0)) ∧ U.cell? ⟨w2.heap.size, 1, none⟩ = some (.int .u64 (0)) ∧ U.cell? ⟨w2.heap.size, 2, none⟩ = some (.int .u64 (0)) ∧ U.cell? ⟨w2.heap.size, 3, none⟩ = some (.int .u64 (0))) ⟨B2.alloc B2.size _, Q2.keep (World.block_lt_of_cell? _ _ Q2.1) ((Below.refl _ _).alloc (Nat.le_refl _) _), by simp [go_sem], by simp [go_sem], by simp [go_sem], by simp [go_sem]⟩ ?_
        clear B2 Q2 hw2 r0 r1 r2 r3 f0 f1 f2 f3 x0 x1 x2 hw B1 C D
        generalize w2.heap.size = bv
        clear w2
        rintro U ⟨B2, ⟨r0, r1, r2, r3, f0, f1, f2, f3⟩, v0, v1, v2, v3⟩
        go_wp2
        simp [bodyPost, results, Try.results44, go_sem, r0, r1, r2, r3]
        exact below_four B2 _ _ _ _
      · rw [(num_ok hE h1 h2).1, (num_ok hE h1 h2).2]
        have es : se X = 0 := by unfold se; rw [if_pos h32, if_neg h2]
        have ev : sv X = sufN X X.length := by unfold sv; rw [if_pos h32, if_neg h2]
        rw [es, ev] at D
        clear es ev h2 h32 h1' h1'' hE hk
        generalize sufN X X.length = V at *
        generalize X.length = n at *
        generalize ts.length = m at *
        go_enter Try.func44, Try.ntmps44
        refine wp_seq_k fun K h => ?_
        have H : Hid _ := h
        clear h
        go_wp2_with fail
        refine H.out _ _ ?_
        clear H K
        refine wp_seq_k fun K h => ?_
        have H : Hid _ := h
        clear h
        go_wp2_with ((with_reducible refine (C.out _).mono ?_); rintro e1 w1 ⟨rfl, hw⟩; (have B1 : Below w.heap.size w w1 := (((Below.refl w.heap.size w).alloc (Nat.le_refl _) _).alloc (by simp) _).trans (hw.mono (by simp; omega))); (obtain ⟨x0, x1, x2⟩ : Bx w1 w.heap.size l (.slice a1 n c1) (.slice a2 m c2) := Bx.keep ⟨by simp [go_sem], by simp [go_sem], by simp [go_sem]⟩ hw); (obtain ⟨r0, r1, r2, r3, f0, f1, f2, f3⟩ : Rz w1 (w.heap.size + 1) := Rz.keep ⟨by simp [go_sem], by simp [go_sem], by simp [go_sem], by simp [go_sem], by simp [go_sem], by simp [go_sem], by simp [go_sem], by simp [go_sem]⟩ (by simp) hw))
        refine H.out _ _ ?_
        clear H K
        refine wp_seq_k fun K h => ?_
        have H : Hid _ := h
        clear h
        go_wp2_with fail
        refine H.out _ _ ?_
        clear H K
        refine wp_seq_k fun K h => ?_
        have H : Hid _ := h
        clear h
        go_wp2_with ((with_reducible refine (D.out _ B1).mono ?_); rintro e2 w2 ⟨rfl, hw2⟩)
        refine H.out _ _ ?_
        clear H K
        have Q2 : Rz w2 (w.heap.size + 1) := Rz.keep ⟨r0, r1, r2, r3, f0, f1, f2, f3⟩ (World.block_lt_of_cell? _ _ r0) hw2
        have B2 := B1.trans (hw2.mono B1.size)
        refine wp_world (fun U => Below w.heap.size w U ∧ Rz U (w.heap.size + 1) ∧ U.cell? ⟨w2.heap.size, 0, none⟩ = some (.int .u64 (l0 V)) ∧ U.cell? ⟨w2.heap.size, 1, none⟩ = some (.int .u64 (l1 V)) ∧ U.cell? ⟨w2.heap.size, 2, none⟩ = some (.int .u64 (l2 V)) ∧ U.cell? ⟨w2.heap.size, 3, none⟩ = some (.int .u64 (l3 V))) ⟨B2.alloc B2.size _, Q2.keep (World.block_lt_of_cell? _ _ Q2.1) ((Below.refl _ _).alloc (Nat.le_refl _) _), by simp [go_sem], by simp [go_sem], by simp [go_sem], by simp [go_sem]⟩ ?_
        clear B2 Q2 hw2 r0 r1 r2 r3 f0 f1 f2 f3 x0 x1 x2 hw B1 C D
        generalize w2.heap.size = bv
        clear w2
        rintro U ⟨B2, ⟨r0, r1, r2, r3, f0, f1, f2, f3⟩, v0, v1, v2, v3⟩
        go_wp2
        simp [bodyPost, results, Try.results44, go_sem, r0, r1, r2, r3]
        exact below_four B2 _ _ _ _
  · rw [(num_bad hE).1, (num_bad hE).2]
    generalize wantE l X ts false = E at *
    have he : (E == 0) = false := by simpa using hE
    clear D hE
    obtain ⟨z0, z1, z2, z3⟩ := zero_limbs
    rw [z0, z1, z2, z3]
    clear z0 z1 z2 z3
    generalize X.length = n at *
    generalize ts.length = m at *
    go_enter Try.func44, Try.ntmps44
    go_wp2_with ((with_reducible refine (C.out _).mono ?_); rintro e1 w1 ⟨rfl, hw⟩; (have B1 : Below w.heap.size w w1 := (((Below.refl w.heap.size w).alloc (Nat.le_refl _) _).alloc (by simp) _).trans (hw.mono (by simp; omega))); (obtain ⟨x0, x1, x2⟩ : Bx w1 w.heap.size l (.slice a1 n c1) (.slice a2 m c2) := Bx.keep ⟨by simp [go_sem], by simp [go_sem], by simp [go_sem]⟩ hw); (obtain ⟨r0, r1, r2, r3, f0, f1, f2, f3⟩ : Rz w1 (w.heap.size + 1) := Rz.keep ⟨by simp [go_sem], by simp [go_sem], by simp [go_sem], by simp [go_sem], by simp [go_sem], by simp [go_sem], by simp [go_sem], by simp [go_sem]⟩ (by simp) hw))
    simp [bodyPost, results, Try.results44, go_sem, r0, r1, r2, r3]
    exact below_four B1 _ _ _ _
set_option maxRecDepth 100000 in
set_option maxHeartbeats 4000000 in
theorem getNumber_anyS {l : Bool} {X : List Int} {ts : List Tr} {a1 a2 : Option Addr} {b o c1 c2 : Nat} (hX : Byts X) (ha : Az a1 b o X) (w : World) (hz : Bz w b o X) :
    Calls Try.prog 26 #[.agg #[.bool l, .slice a1 X.length c1, .slice a2 ts.length c2]] w fun e w' => e = .returned (.tuple #[.agg #[.int .u64 (l0 (numV l X ts 32)), .int .u64 (l1 (numV l X ts 32)), .int .u64 (l2 (numV l X ts 32)), .int .u64 (l3 (numV l X ts 32))], .int .i64 (numE l X ts 32)]) ∧ Below w.heap.size w w' := by
  have C : Hid (∀ W, Below w.heap.size w W → Calls Try.prog 44 #[.agg #[.bool l, .slice a1 X.length c1, .slice a2 ts.length c2], .int .i64 32] W fun e w' => e = .returned (.tuple #[.agg #[.int .u64 (l0 (numV l X ts 32)), .int .u64 (l1 (numV l X ts 32)), .int .u64 (l2 (numV l X ts 32)), .int .u64 (l3 (numV l X ts 32))], .int .i64 (numE l X ts 32)]) ∧ Below W.heap.size W w') := fun W B => getNumber_allS 32 (by decide) hX ha W (hz.keep B)
  generalize numV l X ts 32 = V at *
  generalize numE l X ts 32 = E at *
  clear hX hz ha
  generalize X.length = n at *
  generalize ts.length = m at *
  go_enter Try.func26, Try.ntmps26
  go_wp2_with ((with_reducible refine (C.out _ (((Below.refl _ _).alloc (Nat.le_refl _) _).alloc (by simp) _)).mono ?_); rintro e1 w1 ⟨rfl, hw⟩; (have B1 : Below w.heap.size w w1 := (((Below.refl w.heap.size w).alloc (Nat.le_refl _) _).alloc (by simp) _).trans (hw.mono (by simp; omega))); (obtain ⟨r0, r1, r2, r3, f0, f1, f2, f3⟩ : Rz w1 (w.heap.size + 1) := Rz.keep ⟨by simp [go_sem], by simp [go_sem], by simp [go_sem], by simp [go_sem], by simp [go_sem], by simp [go_sem], by simp [go_sem], by simp [go_sem]⟩ (by simp) hw))
  simp [bodyPost, results, Try.results26, go_sem, r0, r1, r2, r3]
  exact below_four B1 _ _ _ _
set_option maxRecDepth 100000 in
set_option maxHeartbeats 4000000 in
theorem getSmall_anyS {l : Bool} {X : List Int} {ts : List Tr} {a1 a2 : Option Addr} {b o c1 c2 : Nat} (hX : Byts X) (ha : Az a1 b o X) (w : World) (hz : Bz w b o X) :
    Calls Try.prog 25 #[.agg #[.bool l, .slice a1 X.length c1, .slice a2 ts.length c2]] w fun e w' => e = .returned (.tuple #[.int .u64 (l0 (numV l X ts 8)), .int .i64 (numE l X ts 8)]) ∧ Below w.heap.size w w' := by
  have C : Hid (∀ W, Below w.heap.size w W → Calls Try.prog 44 #[.agg #[.bool l, .slice a1 X.length c1, .slice a2 ts.length c2], .int .i64 8] W fun e w' => e = .returned (.tuple #[.agg #[.int .u64 (l0 (numV l X ts 8)), .int .u64 (l1 (numV l X ts 8)), .int .u64 (l2 (numV l X ts 8)), .int .u64 (l3 (numV l X ts 8))], .int .i64 (numE l X ts 8)]) ∧ Below W.heap.size W w') := fun W B => getNumber_allS 8 (by decide) hX ha W (hz.keep B)
  generalize numV l X ts 8 = V at *
  generalize numE l X ts 8 = E at *
  clear hX hz ha
  generalize X.length = n at *
  generalize ts.length = m at *
  go_enter Try.func25, Try.ntmps25
  go_wp2_with ((with_reducible refine (C.out _ ((Below.refl _ _).alloc (Nat.le_refl _) _)).mono ?_); rintro e1 w1 ⟨rfl, hw⟩; (have B1 : Below w.heap.size w w1 := ((Below.refl w.heap.size w).alloc (Nat.le_refl _) _).trans (hw.mono (by simp))))
  simp [bodyPost, results, Try.results25, go_sem]
  exact B1.alloc B1.size _
end Go.Proofs.Ytaefmdofchjofaa
