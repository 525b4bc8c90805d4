import Derived.Test.YtaefmdofchjofaaRxQ
import Derived.Test.YtaefmdofchjofaaRjA
import Derived.Test.YtaefmdofchjofaaUbA
import Derived.Laws.CopyOwn
import Derived.Deep.OwnRows
import Derived.Deep.MidRow
import Derived.Lib.LazyBuf
import Derived.Test.YtaefmdofchjofaaRoomy
import Derived.Test.YtaefmdofchjofaaGet
import Derived.Test.YtaefmdofchjofaaUbC
import Derived.Test.YtaefmdofchjofaaLen
import Derived.Test.YtaefmdofchjofaaHold
import Derived.Test.YtaefmdofchjofaaNum
/- Layer 7: the document's bound (level by level): it answers. -/
namespace Go.Proofs.Ytaefmdofchjofaa
open Go.RowKit Go.Sort
/-- The cells of items in a row. -/
theorem Its.cells {W : World} {b o : Nat} {ts : List Tr} (h : Its W b o ts) : ∃ ps : List (Value × Value), ps.length = ts.length ∧ W.rangeAt b o (itC ts ps) ∧ (∀ i, i < ts.length → It W (ts.getD i zT) (ps.getD i zV).1 (ps.getD i zV).2) := by
  induction ts generalizing o with
  | nil => exact ⟨[], rfl, fun j v hv => by simp [itC] at hv, fun i hi => absurd hi (Nat.not_lt_zero _)⟩
  | cons t ts ih =>
    rw [Its] at h
    obtain ⟨⟨d, q, h1, h2⟩, h3⟩ := h
    obtain ⟨ps, k1, k2, k3⟩ := ih h3
    refine ⟨(d, q) :: ps, by simp [k1], fun j v hv => ?_, fun i hi => ?_⟩
    · match j, hv with
      | 0, hv => exact h1 0 v hv
      | 1, hv => exact h1 1 v hv
      | 2, hv => exact h1 2 v hv
      | j + 3, hv =>
        have := k2 j v hv
        rw [show o + (j + 3) = o + 3 + j by omega]; exact this
    · match i, hi with
      | 0, _ => exact h2
      | i + 1, hi => exact k3 i (by simpa using hi)
end Go.Proofs.Ytaefmdofchjofaa

/- Layer 7: the statement's twin, room. -/
namespace Go.Proofs.Ytaefmdofchjofaa
open Go.RowKit Go.Sort
theorem wpList_append_it {ops : Array Oper} {rest : List Oper} {w : World} {o : Oper} {a : Act} {Q : Exit → Act → World → Prop} (hgd : o.guard = none) (s x : Operand) (ho : o.op = .call { callee := .builtin .append, args := #[s, x], argTypes := #[46, 46] })
    (base : Nat) (v : Value) (n : Nat) (xs : List Value) (hs : a.eval s = v) (hown : w.ownsRow base 48 3 v n xs)
    (g c : Nat) (u0 u1 u2 : Value) (hx : a.eval x = .slice (some ⟨g, 0, none⟩) 1 c) (hnews : w.cell? ⟨g, 0, none⟩ = some u0 ∧ w.cell? ⟨g, 1, none⟩ = some u1 ∧ w.cell? ⟨g, 2, none⟩ = some u2) (h1 : u0.oneCell' = true ∧ u1.oneCell' = true ∧ u2.oneCell' = true)
    (hn : n < 100000000000) (hbase : base ≤ w.heap.size)
    (h : ∀ v' w', w'.ownsRow base 48 3 v' (n + 1) (xs ++ [u0, u1, u2]) → w.grownBy w' v.ownBlock → (v'.ownBlock = v.ownBlock ∨ v'.ownBlock = some w.heap.size) → wpList Try.prog ops Q rest (a.put o.dst v') w') : wpList Try.prog ops Q (o :: rest) a w := by
  refine wpList_plain hgd fun K hK => wp_append_it s x ho base v n xs hs hown g c u0 u1 u2 hx hnews h1 hn hbase fun v' w' k1 k2 k3 => hK _ _ (h v' w' k1 k2 k3)
theorem Bx.new {W : World} {t : TypeId} {l : Bool} {d q : Value} : Bx (W.alloc (.cells #[.bool l, d, q] t)) W.heap.size l d q := ⟨by simp [go_sem], by simp [go_sem], by simp [go_sem]⟩
theorem Bx.lt {W : World} {b : Nat} {l : Bool} {d q : Value} (h : Bx W b l d q) : b < W.heap.size := World.block_lt_of_cell? W _ h.1
theorem grown_set (w : World) (a : Addr) (v : Value) : w.grownBy (w.setCell a v) (some a.block) := ⟨rfl, rfl, rfl, by simp, fun k _ hk => heap_setCell_other _ _ _ _ fun e => hk (by rw [e])⟩
end Go.Proofs.Ytaefmdofchjofaa

/- Layer 7: what is read of an item. -/
namespace Go.Proofs.Ytaefmdofchjofaa
open Go.RowKit Go.Sort
/-- The error of an item that is to be a list, or a text. -/
def wantE (l : Bool) (X : List Int) (ts : List Tr) (k : Bool) : Int := if odd1 l X ts then 78 else if l = k then 0 else 75
def wantL (l : Bool) (X : List Int) (ts : List Tr) : List Int := if wantE l X ts false = 0 then X else []
def fixE (l : Bool) (X : List Int) (ts : List Tr) (n : Int) : Int := if n < 0 then 1 else if wantE l X ts false ≠ 0 then wantE l X ts false else if (X.length : Int) = n then 0 else 77
def fixL (l : Bool) (X : List Int) (ts : List Tr) (n : Int) : List Int := if fixE l X ts n = 0 then X else []
def numE (l : Bool) (X : List Int) (ts : List Tr) (m : Nat) : Int := if wantE l X ts false ≠ 0 then wantE l X ts false else if m < X.length then 77 else if X ≠ [] ∧ X.getD 0 0 = 0 then 76 else 0
def numV (l : Bool) (X : List Int) (ts : List Tr) (m : Nat) : Int := if numE l X ts m = 0 then sufN X X.length else 0
set_option maxRecDepth 100000 in
set_option maxHeartbeats 4000000 in
theorem checkKind_any {l k : Bool} {X : List Int} {ts : List Tr} {a1 a2 : Option Addr} {c1 c2 : Nat} (w : World) :
    Calls Try.prog 62 #[.agg #[.bool l, .slice a1 X.length c1, .slice a2 ts.length c2], .bool k] w fun e w' => e = .returned (.int .i64 (wantE l X ts k)) ∧ Below w.heap.size w w' := by
  have C : Hid (∀ w, Calls Try.prog 67 #[.agg #[.bool l, .slice a1 X.length c1, .slice a2 ts.length c2]] w fun e w' => e = .returned (.bool (odd1 l X ts)) ∧ Below w.heap.size w w') := fun w => isOdd_any w
  unfold wantE
  generalize odd1 l X ts = od at *
  generalize X.length = n at *
  generalize ts.length = m at *
  have hb : ∀ od' : Bool, od' = od → ∀ lk : Bool, (l != k) = lk → (if od = true then (78 : Int) else if l = k then 0 else 75) = (if od' then 78 else if lk then 75 else 0) := fun od' h1 lk h2 => by subst h1; cases l <;> cases k <;> subst h2 <;> rfl
  obtain ⟨lk, hlk⟩ : ∃ lk, (l != k) = lk := ⟨_, rfl⟩
  rw [hb od rfl lk hlk]
  clear hb
  have hk : lk = false → l = k := fun e => by subst e; simpa using hlk
  cases od <;> cases lk
  all_goals simp only [Bool.false_eq_true, if_false, if_true]
  all_goals (
    first
      | (obtain rfl := hk rfl
         clear hk)
      | (have hlk2 : (l == k) = false := by simpa using hlk
         clear hk hlk)
    go_enter Try.func62, Try.ntmps62
    go_wp2_with ((with_reducible refine (C.out _).mono ?_); rintro e1 w1 ⟨rfl, hw⟩; (have B1 : Below w.heap.size w w1 := ((Below.refl w.heap.size w).alloc (Nat.le_refl _) _).trans (hw.mono (by simp))); (obtain ⟨x0, x1, x2⟩ : Bx w1 w.heap.size l (.slice a1 n c1) (.slice a2 m c2) := Bx.keep ⟨by simp [go_sem], by simp [go_sem], by simp [go_sem]⟩ hw))
    simp [bodyPost, results, Try.results62, go_sem]
    exact B1)
set_option maxRecDepth 100000 in
set_option maxHeartbeats 4000000 in
theorem rwanted_any {l k : Bool} {X : List Int} {ts : List Tr} {a1 a2 : Option Addr} {c1 c2 : Nat} (w : World) :
    Calls Try.prog 65 #[.agg #[.bool l, .slice a1 X.length c1, .slice a2 ts.length c2], .bool k] w fun e w' => e = .returned (.int .i64 (wantE l X ts k)) ∧ Below w.heap.size w w' := by
  have C : Hid (∀ w, Calls Try.prog 80 #[.agg #[.bool l, .slice a1 X.length c1, .slice a2 ts.length c2]] w fun e w' => e = .returned (.bool (odd1 l X ts)) ∧ Below w.heap.size w w') := fun w => rodd_any w
  unfold wantE
  generalize odd1 l X ts = od at *
  generalize X.length = n at *
  generalize ts.length = m at *
  have hb : ∀ od' : Bool, od' = od → ∀ lk : Bool, (l != k) = lk → (if od = true then (78 : Int) else if l = k then 0 else 75) = (if od' then 78 else if lk then 75 else 0) := fun od' h1 lk h2 => by subst h1; cases l <;> cases k <;> subst h2 <;> rfl
  obtain ⟨lk, hlk⟩ : ∃ lk, (l != k) = lk := ⟨_, rfl⟩
  rw [hb od rfl lk hlk]
  clear hb
  have hk : lk = false → l = k := fun e => by subst e; simpa using hlk
  cases od <;> cases lk
  all_goals simp only [Bool.false_eq_true, if_false, if_true]
  all_goals (
    first
      | (obtain rfl := hk rfl
         clear hk)
      | (have hlk2 : (l == k) = false := by simpa using hlk
         clear hk hlk)
    go_enter Try.func65, Try.ntmps65
    go_wp2_with ((with_reducible refine (C.out _).mono ?_); rintro e1 w1 ⟨rfl, hw⟩; (have B1 : Below w.heap.size w w1 := ((Below.refl w.heap.size w).alloc (Nat.le_refl _) _).trans (hw.mono (by simp))); (obtain ⟨x0, x1, x2⟩ : Bx w1 w.heap.size l (.slice a1 n c1) (.slice a2 m c2) := Bx.keep ⟨by simp [go_sem], by simp [go_sem], by simp [go_sem]⟩ hw))
    simp [bodyPost, results, Try.results65, go_sem]
    exact B1)
set_option maxRecDepth 100000 in
set_option maxHeartbeats 4000000 in
theorem getText_any {l : Bool} {X : List Int} {ts : List Tr} {a1 a2 : Option Addr} {b o c1 c2 : Nat} (hl : X.length < 16777216) (ha : Az a1 b o X) (w : World) (hz : Bz w b o X) :
    Calls Try.prog 45 #[.agg #[.bool l, .slice a1 X.length c1, .slice a2 ts.length c2]] w fun e w' => ∃ v, e = .returned (.tuple #[v, .int .i64 (wantE l X ts false)]) ∧ OwnB w.heap.size w' v (wantL l X ts) ∧ Below w.heap.size w w' := by
  have C : Hid (∀ w, Calls Try.prog 62 #[.agg #[.bool l, .slice a1 X.length c1, .slice a2 ts.length c2], .bool false] w fun e w' => e = .returned (.int .i64 (wantE l X ts false)) ∧ Below w.heap.size w w') := fun w => checkKind_any w
  have D : Hid (∀ W, Below w.heap.size w W → Calls Try.prog 37 #[.slice a1 X.length c1] W fun e w' => ∃ v, e = .returned v ∧ OwnB W.heap.size w' v X ∧ Below W.heap.size W w') := fun W B => bclone_all rfl (by omega) ha W (hz.keep B)
  unfold wantL
  generalize wantE l X ts false = E at *
  clear hl ha hz
  generalize hX : X.length = n at *
  generalize ts.length = m at *
  by_cases hE : E = 0
  · subst hE
    rw [if_pos rfl]
    go_enter Try.func45, Try.ntmps45
    go_wp2_with (first
      | ((with_reducible refine (C.out _).mono ?_); rintro e1 w1 ⟨rfl, hw⟩; (have B1 : Below w.heap.size w w1 := ((Below.refl w.heap.size w).alloc (Nat.le_refl _) _).trans (hw.mono (by simp))); (obtain ⟨x0, x1, x2⟩ : Bx w1 w.heap.size l (.slice a1 n c1) (.slice a2 m c2) := Bx.keep ⟨by simp [go_sem], by simp [go_sem], by simp [go_sem]⟩ hw))
      | ((with_reducible refine (D.out _ B1).mono ?_); rintro e2 w2 ⟨v, rfl, o2, hw2⟩))
    simp [bodyPost, results, Try.results45, go_sem]
    exact ⟨o2.base B1.size, B1.trans (hw2.mono B1.size)⟩
  · rw [if_neg hE]
    have he : (E == 0) = false := by simpa using hE
    go_enter Try.func45, Try.ntmps45
    go_wp2_with ((with_reducible refine (C.out _).mono ?_); rintro e1 w1 ⟨rfl, hw⟩; (have B1 : Below w.heap.size w w1 := ((Below.refl w.heap.size w).alloc (Nat.le_refl _) _).trans (hw.mono (by simp))); (obtain ⟨x0, x1, x2⟩ : Bx w1 w.heap.size l (.slice a1 n c1) (.slice a2 m c2) := Bx.keep ⟨by simp [go_sem], by simp [go_sem], by simp [go_sem]⟩ hw))
    simp [bodyPost, results, Try.results45, go_sem]
    exact ⟨OwnB.nil _ _, B1⟩
end Go.Proofs.Ytaefmdofchjofaa

/- Layer 7: what is read of an item: texts of a length, numbers. -/
namespace Go.Proofs.Ytaefmdofchjofaa
open Go.RowKit Go.Sort
theorem fix_neg {l : Bool} {X : List Int} {ts : List Tr} {n : Int} (h : n < 0) : fixE l X ts n = 1 ∧ fixL l X ts n = [] := by
  have e : fixE l X ts n = 1 := by unfold fixE; rw [if_pos h]
  exact ⟨e, by unfold fixL; rw [e]; rfl⟩
theorem fix_bad {l : Bool} {X : List Int} {ts : List Tr} {n : Int} (h : ¬ n < 0) (hE : wantE l X ts false ≠ 0) : fixE l X ts n = wantE l X ts false ∧ fixL l X ts n = [] := by
  have e : fixE l X ts n = wantE l X ts false := by unfold fixE; rw [if_neg h, if_pos hE]
  exact ⟨e, by unfold fixL; rw [e, if_neg hE]⟩
theorem fix_len {l : Bool} {X : List Int} {ts : List Tr} {n : Int} (h : ¬ n < 0) (hE : wantE l X ts false = 0) (h1 : ¬ (X.length : Int) = n) : fixE l X ts n = 77 ∧ fixL l X ts n = [] := by
  have e : fixE l X ts n = 77 := by unfold fixE; rw [if_neg h, if_neg (not_not_intro hE), if_neg h1]
  exact ⟨e, by unfold fixL; rw [e]; rfl⟩
theorem fix_ok {l : Bool} {X : List Int} {ts : List Tr} {n : Int} (h : ¬ n < 0) (hE : wantE l X ts false = 0) (h1 : (X.length : Int) = n) : fixE l X ts n = 0 ∧ fixL l X ts n = X := by
  have e : fixE l X ts n = 0 := by unfold fixE; rw [if_neg h, if_neg (not_not_intro hE), if_pos h1]
  exact ⟨e, by unfold fixL; rw [if_pos e]⟩
theorem num_bad {l : Bool} {X : List Int} {ts : List Tr} {k : Nat} (hE : wantE l X ts false ≠ 0) : numE l X ts k = wantE l X ts false ∧ numV l X ts k = 0 := by
  have e : numE l X ts k = wantE l X ts false := by unfold numE; rw [if_pos hE]
  exact ⟨e, by unfold numV; rw [e, if_neg hE]⟩
theorem num_long {l : Bool} {X : List Int} {ts : List Tr} {k : Nat} (hE : wantE l X ts false = 0) (h : k < X.length) : numE l X ts k = 77 ∧ numV l X ts k = 0 := by
  have e : numE l X ts k = 77 := by unfold numE; rw [if_neg (not_not_intro hE), if_pos h]
  exact ⟨e, by unfold numV; rw [e]; rfl⟩
theorem num_lead {l : Bool} {X : List Int} {ts : List Tr} {k : Nat} (hE : wantE l X ts false = 0) (h : ¬ k < X.length) (h2 : X ≠ [] ∧ X.getD 0 0 = 0) : numE l X ts k = 76 ∧ numV l X ts k = 0 := by
  have e : numE l X ts k = 76 := by unfold numE; rw [if_neg (not_not_intro hE), if_neg h, if_pos h2]
  exact ⟨e, by unfold numV; rw [e]; rfl⟩
theorem num_ok {l : Bool} {X : List Int} {ts : List Tr} {k : Nat} (hE : wantE l X ts false = 0) (h : ¬ k < X.length) (h2 : ¬ (X ≠ [] ∧ X.getD 0 0 = 0)) : numE l X ts k = 0 ∧ numV l X ts k = sufN X X.length := by
  have e : numE l X ts k = 0 := by unfold numE; rw [if_neg (not_not_intro hE), if_neg h, if_neg h2]
  exact ⟨e, by unfold numV; rw [if_pos e]⟩
set_option maxRecDepth 100000 in
set_option maxHeartbeats 4000000 in
theorem getFixed_any {l : Bool} {X : List Int} {ts : List Tr} {a1 a2 : Option Addr} {b o c1 c2 : Nat} (k : Int) (hl : X.length < 16777216) (ha : Az a1 b o X) (w : World) (hz : Bz w b o X) :
    Calls Try.prog 27 #[.agg #[.bool l, .slice a1 X.length c1, .slice a2 ts.length c2], .int .i64 k] w fun e w' => ∃ v, e = .returned (.tuple #[v, .int .i64 (fixE l X ts k)]) ∧ OwnB w.heap.size w' v (fixL l X ts k) ∧ Below w.heap.size w w' := by
  have D : Hid (∀ W, Below w.heap.size w W → Calls Try.prog 45 #[.agg #[.bool l, .slice a1 X.length c1, .slice a2 ts.length c2]] W fun e w' => ∃ v, e = .returned (.tuple #[v, .int .i64 (wantE l X ts false)]) ∧ OwnB W.heap.size w' v (wantL l X ts) ∧ Below W.heap.size W w') := fun W B => getText_any hl ha W (hz.keep B)
  unfold wantL at D
  clear ha hz hl
  by_cases h0 : k < 0
  · rw [(fix_neg h0).1, (fix_neg h0).2]
    clear D
    go_enter Try.func27, Try.ntmps27
    go_wp2
    simp [bodyPost, results, Try.results27, go_sem]
    exact ⟨OwnB.nil _ _, (Below.refl _ _).alloc (Nat.le_refl _) _⟩
  · have h0' : decide (k < 0) = false := decide_eq_false h0
    by_cases hE : wantE l X ts false = 0
    · rw [hE, if_pos rfl] at D
      by_cases h1 : (X.length : Int) = k
      · rw [(fix_ok h0 hE h1).1, (fix_ok h0 hE h1).2]
        subst h1
        clear hE h0
        have hkk : ((X.length : Int) == (X.length : Int)) = true := by simp
        go_enter Try.func27, Try.ntmps27
        go_wp2_with ((with_reducible refine (D.out _ ((Below.refl _ _).alloc (Nat.le_refl _) _)).mono ?_); rintro e1 w1 ⟨v, rfl, o1, hw⟩; (obtain ⟨av, gv1, cv, rfl, _⟩ := o1.lies))
        simp [bodyPost, results, Try.results27, go_sem]
        exact ⟨o1.base (by simp), ((Below.refl w.heap.size w).alloc (Nat.le_refl _) _).trans (hw.mono (by simp))⟩
      · rw [(fix_len h0 hE h1).1, (fix_len h0 hE h1).2]
        have h1' : ((X.length : Int) == k) = false := by simpa using h1
        clear hE h0 h1
        go_enter Try.func27, Try.ntmps27
        go_wp2_with ((with_reducible refine (D.out _ ((Below.refl _ _).alloc (Nat.le_refl _) _)).mono ?_); rintro e1 w1 ⟨v, rfl, o1, hw⟩; (obtain ⟨av, gv1, cv, rfl, _⟩ := o1.lies))
        simp [bodyPost, results, Try.results27, go_sem]
        exact ⟨OwnB.nil _ _, ((Below.refl w.heap.size w).alloc (Nat.le_refl _) _).trans (hw.mono (by simp))⟩
    · rw [if_neg hE] at D
      rw [(fix_bad h0 hE).1, (fix_bad h0 hE).2]
      generalize wantE l X ts false = E at *
      have he : (E == 0) = false := by simpa using hE
      clear hE h0
      go_enter Try.func27, Try.ntmps27
      go_wp2_with ((with_reducible refine (D.out _ ((Below.refl _ _).alloc (Nat.le_refl _) _)).mono ?_); rintro e1 w1 ⟨v, rfl, o1, hw⟩; (obtain ⟨av, gv1, cv, rfl, _⟩ := o1.lies))
      simp [bodyPost, results, Try.results27, go_sem]
      exact ⟨OwnB.nil _ _, ((Below.refl w.heap.size w).alloc (Nat.le_refl _) _).trans (hw.mono (by simp))⟩
set_option maxRecDepth 100000 in
set_option maxHeartbeats 4000000 in
theorem rGetFixed_any {l : Bool} {X : List Int} {ts : List Tr} {a1 a2 : Option Addr} {b o c1 c2 : Nat} (k : Int) (hl : X.length < 16777216) (ha : Az a1 b o X) (hnc : a1 = none → c1 = 0) (w : World) (hz : Bz w b o X) :
    Calls Try.prog 48 #[.agg #[.bool l, .slice a1 X.length c1, .slice a2 ts.length c2], .int .i64 k] w fun e w' => ∃ v, e = .returned (.tuple #[v, .int .i64 (fixE l X ts k)]) ∧ OwnB w.heap.size w' v (fixL l X ts k) ∧ Below w.heap.size w w' := by
  have C : Hid (∀ w, Calls Try.prog 65 #[.agg #[.bool l, .slice a1 X.length c1, .slice a2 ts.length c2], .bool false] w fun e w' => e = .returned (.int .i64 (wantE l X ts false)) ∧ Below w.heap.size w w') := fun w => rwanted_any w
  have D : Hid (∀ W, Below w.heap.size w W → Calls Try.prog 40 #[.slice a1 X.length c1] W fun e w' => ∃ v, e = .returned v ∧ OwnB W.heap.size w' v X ∧ Below W.heap.size W w') := fun W B => r7bytes_any rfl (by omega) ha hnc W (hz.keep B)
  clear ha hz hnc hl
  by_cases h0 : k < 0
  · rw [(fix_neg h0).1, (fix_neg h0).2]
    clear D C
    go_enter Try.func48, Try.ntmps48
    go_wp2
    simp [bodyPost, results, Try.results48, go_sem]
    exact ⟨OwnB.nil _ _, (Below.refl _ _).alloc (Nat.le_refl _) _⟩
  · have h0' : decide (k < 0) = false := decide_eq_false h0
    by_cases hE : wantE l X ts false = 0
    · rw [hE] at C
      by_cases h1 : (X.length : Int) = k
      · rw [(fix_ok h0 hE h1).1, (fix_ok h0 hE h1).2]
        subst h1
        clear hE h0
        generalize hX : X.length = n at *
        generalize ts.length = m at *
        have hkk : ((n : Int) == (n : Int)) = true := by simp
        go_enter Try.func48, Try.ntmps48
        go_wp2_with (first
          | ((with_reducible refine (C.out _).mono ?_); rintro e1 w1 ⟨rfl, hw⟩; (have B1 : Below w.heap.size w w1 := ((Below.refl w.heap.size w).alloc (Nat.le_refl _) _).trans (hw.mono (by simp))); (obtain ⟨x0, x1, x2⟩ : Bx w1 w.heap.size l (.slice a1 n c1) (.slice a2 m c2) := Bx.keep ⟨by simp [go_sem], by simp [go_sem], by simp [go_sem]⟩ hw))
          | ((with_reducible refine (D.out _ B1).mono ?_); rintro e2 w2 ⟨v, rfl, o2, hw2⟩))
        simp [bodyPost, results, Try.results48, go_sem]
        exact ⟨o2.base B1.size, B1.trans (hw2.mono B1.size)⟩
      · rw [(fix_len h0 hE h1).1, (fix_len h0 hE h1).2]
        have h1' : ((X.length : Int) == k) = false := by simpa using h1
        clear hE h0 h1 D
        generalize X.length = n at *
        generalize ts.length = m at *
        go_enter Try.func48, Try.ntmps48
        go_wp2_with ((with_reducible refine (C.out _).mono ?_); rintro e1 w1 ⟨rfl, hw⟩; (have B1 : Below w.heap.size w w1 := ((Below.refl w.heap.size w).alloc (Nat.le_refl _) _).trans (hw.mono (by simp))); (obtain ⟨x0, x1, x2⟩ : Bx w1 w.heap.size l (.slice a1 n c1) (.slice a2 m c2) := Bx.keep ⟨by simp [go_sem], by simp [go_sem], by simp [go_sem]⟩ hw))
        simp [bodyPost, results, Try.results48, go_sem]
        exact ⟨OwnB.nil _ _, B1⟩
    · rw [(fix_bad h0 hE).1, (fix_bad h0 hE).2]
      generalize wantE l X ts false = E at *
      have he : (E == 0) = false := by simpa using hE
      clear hE h0 D
      generalize X.length = n at *
      generalize ts.length = m at *
      go_enter Try.func48, Try.ntmps48
      go_wp2_with ((with_reducible refine (C.out _).mono ?_); rintro e1 w1 ⟨rfl, hw⟩; (have B1 : Below w.heap.size w w1 := ((Below.refl w.heap.size w).alloc (Nat.le_refl _) _).trans (hw.mono (by simp))); (obtain ⟨x0, x1, x2⟩ : Bx w1 w.heap.size l (.slice a1 n c1) (.slice a2 m c2) := Bx.keep ⟨by simp [go_sem], by simp [go_sem], by simp [go_sem]⟩ hw))
      simp [bodyPost, results, Try.results48, go_sem]
      exact ⟨OwnB.nil _ _, B1⟩
/-- A number 0 in a block that may be written. -/
def Rz (W : World) (b : Nat) : Prop := W.cell? ⟨b, 0, none⟩ = some (.int .u64 0) ∧ W.cell? ⟨b, 1, none⟩ = some (.int .u64 0) ∧ W.cell? ⟨b, 2, none⟩ = some (.int .u64 0) ∧ W.cell? ⟨b, 3, none⟩ = some (.int .u64 0) ∧ W.frozen? ⟨b, 0, none⟩ = false ∧ W.frozen? ⟨b, 1, none⟩ = false ∧ W.frozen? ⟨b, 2, none⟩ = false ∧ W.frozen? ⟨b, 3, none⟩ = false
theorem Rz.keep {W w1 : World} {b : Nat} (x : Rz W b) (hlt : b < W.heap.size) (hb : Below W.heap.size W w1) : Rz w1 b := ⟨keepC hb x.1, keepC hb x.2.1, keepC hb x.2.2.1, keepC hb x.2.2.2.1, by rw [hb.frozen (p := ⟨b, 0, none⟩) hlt]; exact x.2.2.2.2.1, by rw [hb.frozen (p := ⟨b, 1, none⟩) hlt]; exact x.2.2.2.2.2.1, by rw [hb.frozen (p := ⟨b, 2, none⟩) hlt]; exact x.2.2.2.2.2.2.1, by rw [hb.frozen (p := ⟨b, 3, none⟩) hlt]; exact x.2.2.2.2.2.2.2⟩
theorem below_four {w w1 : World} (B : Below w.heap.size w w1) (u0 u1 u2 u3 : Value) : Below w.heap.size w ((((w1.setCell ⟨w.heap.size + 1, 0, none⟩ u0).setCell ⟨w.heap.size + 1, 1, none⟩ u1).setCell ⟨w.heap.size + 1, 2, none⟩ u2).setCell ⟨w.heap.size + 1, 3, none⟩ u3) :=
  (((B.setCell (by show w.heap.size ≤ w.heap.size + 1; omega) _).setCell (by show w.heap.size ≤ w.heap.size + 1; omega) _).setCell (by show w.heap.size ≤ w.heap.size + 1; omega) _).setCell (by show w.heap.size ≤ w.heap.size + 1; omega) _
set_option maxRecDepth 100000 in
set_option maxHeartbeats 4000000 in
theorem getNumber_all {l : Bool} {X : List Int} {ts : List Tr} {a2 : Option Addr} {g c1 c2 : Nat} (k : Nat) (hk : k ≤ 32) (hX : Byts X) (w : World) (hz : Bz w g 0 X) :
    Calls Try.prog 44 #[.agg #[.bool l, .slice (some ⟨g, 0, none⟩) X.length c1, .slice a2 ts.length c2], .int .i64 (k : Int)] w fun e w' => e = .returned (.tuple #[.agg #[.int .u64 (l0 (numV l X ts k)), .int .u64 (l1 (numV l X ts k)), .int .u64 (l2 (numV l X ts k)), .int .u64 (l3 (numV l X ts k))], .int .i64 (numE l X ts k)]) ∧ Below w.heap.size w w' := by
  have C : Hid (∀ w, Calls Try.prog 62 #[.agg #[.bool l, .slice (some ⟨g, 0, none⟩) X.length c1, .slice a2 ts.length c2], .bool false] w fun e w' => e = .returned (.int .i64 (wantE l X ts false)) ∧ Below w.heap.size w w') := fun w => checkKind_any w
  have D : Hid (∀ W, Below w.heap.size w W → Calls Try.prog 63 #[.slice (some ⟨g, 0, none⟩) X.length c1] W fun e w' => e = .returned (.tuple #[.agg #[.int .u64 (l0 (sv X)), .int .u64 (l1 (sv X)), .int .u64 (l2 (sv X)), .int .u64 (l3 (sv X))], .int .i64 (se X)]) ∧ Below W.heap.size W w') := fun W B => strict_all hX W (hz.keep B)
  clear hz hX
  by_cases hE : wantE l X ts false = 0
  · rw [hE] at C
    by_cases h1 : k < X.length
    · rw [(num_long hE h1).1, (num_long hE h1).2]
      have h1' : (k : Int) < (X.length : Int) := by omega
      clear D hE h1 hk
      obtain ⟨z0, z1, z2, z3⟩ := zero_limbs
      rw [z0, z1, z2, z3]
      clear z0 z1 z2 z3
      generalize X.length = n at *
      generalize ts.length = m at *
      go_enter Try.func44, Try.ntmps44
      go_wp2_with ((with_reducible refine (C.out _).mono ?_); rintro e1 w1 ⟨rfl, hw⟩; (have B1 : Below w.heap.size w w1 := (((Below.refl w.heap.size w).alloc (Nat.le_refl _) _).alloc (by simp) _).trans (hw.mono (by simp; omega))); (obtain ⟨x0, x1, x2⟩ : Bx w1 w.heap.size l (.slice (some ⟨g, 0, none⟩) n c1) (.slice a2 m c2) := Bx.keep ⟨by simp [go_sem], by simp [go_sem], by simp [go_sem]⟩ hw); (obtain ⟨r0, r1, r2, r3, f0, f1, f2, f3⟩ : Rz w1 (w.heap.size + 1) := Rz.keep ⟨by simp [go_sem], by simp [go_sem], by simp [go_sem], by simp [go_sem], by simp [go_sem], by simp [go_sem], by simp [go_sem], by simp [go_sem]⟩ (by simp) hw))
      simp [bodyPost, results, Try.results44, go_sem, r0, r1, r2, r3]
      exact below_four B1 _ _ _ _
    · have h1' : ¬ ((k : Int) < (X.length : Int)) := by omega
      have h1'' : decide ((k : Int) < (X.length : Int)) = false := decide_eq_false h1'
      have h32 : X.length ≤ 32 := by omega
      by_cases h2 : X ≠ [] ∧ X.getD 0 0 = 0
      · rw [(num_lead hE h1 h2).1, (num_lead hE h1 h2).2]
        have es : se X = 13 := by unfold se; rw [if_pos h32, if_pos h2]
        have ev : sv X = 0 := by unfold sv; rw [if_pos h32, if_pos h2]
        rw [es, ev] at D
        obtain ⟨z0, z1, z2, z3⟩ := zero_limbs
        rw [z0, z1, z2, z3] at D ⊢
        clear z0 z1 z2 z3 es ev h2 h32 h1' h1'' hE hk
        generalize X.length = n at *
        generalize ts.length = m at *
        go_enter Try.func44, Try.ntmps44
        refine wp_seq_k fun K h => ?_
        have H : Hid _ := h
        clear h
        go_wp2_with fail
        refine H.out _ _ ?_
        clear H K
        refine wp_seq_k fun K h => ?_
        have H : Hid _ := h
        clear h
        go_wp2_with ((with_reducible refine (C.out _).mono ?_); rintro e1 w1 ⟨rfl, hw⟩; (have B1 : Below w.heap.size w w1 := (((Below.refl w.heap.size w).alloc (Nat.le_refl _) _).alloc (by simp) _).trans (hw.mono (by simp; omega))); (obtain ⟨x0, x1, x2⟩ : Bx w1 w.heap.size l (.slice (some ⟨g, 0, none⟩) n c1) (.slice a2 m c2) := Bx.keep ⟨by simp [go_sem], by simp [go_sem], by simp [go_sem]⟩ hw); (obtain ⟨r0, r1, r2, r3, f0, f1, f2, f3⟩ : Rz w1 (w.heap.size + 1) := Rz.keep ⟨by simp [go_sem], by simp [go_sem], by simp [go_sem], by simp [go_sem], by simp [go_sem], by simp [go_sem], by simp [go_sem], by simp [go_sem]⟩ (by simp) hw))
        refine H.out _ _ ?_
        clear H K
        refine wp_seq_k fun K h => ?_
        have H : Hid _ := h
        clear h
        go_wp2_with fail
        refine H.out _ _ ?_
        clear H K
        refine wp_seq_k fun K h => ?_
        have H : Hid _ := h
        clear h
        go_wp2_with ((with_reducible refine (D.out _ B1).mono ?_); rintro e2 w2 ⟨rfl, hw2⟩)
        refine H.out _ _ ?_
        clear H K
        have Q2 : Rz w2 (w.heap.size + 1) := Rz.keep ⟨r0, r1, r2, r3, f0, f1, f2, f3⟩ (World.block_lt_of_cell? _ _ r0) hw2
        have B2 := B1.trans (hw2.mono B1.size)
        refine wp_world (fun U => Below w.heap.size w U ∧ Rz U (w.heap.size + 1) ∧ U.cell? ⟨w2.heap.size, 0, none⟩ = some (.int .u64 (0)) ∧ U.cell? ⟨w2.heap.size, 1, none⟩ = some (.int .u64 (0)) ∧ U.cell? ⟨w2.heap.size, 2, none⟩ = some (.int .u64 (0)) ∧ U.cell? ⟨w2.heap.size, 3, none⟩ = some (.int .u64 (0))) ⟨B2.alloc B2.size _, Q2.keep (World.block_lt_of_cell? _ _ Q2.1) ((Below.refl _ _).alloc (Nat.le_refl _) _), by simp [go_sem], by simp [go_sem], by simp [go_sem], by simp [go_sem]⟩ ?_
        clear B2 Q2 hw2 r0 r1 r2 r3 f0 f1 f2 f3 x0 x1 x2 hw B1 C D
        generalize w2.heap.size = bv
        clear w2
        rintro U ⟨B2, ⟨r0, r1, r2, r3, f0, f1, f2, f3⟩, v0, v1, v2, v3⟩
        go_wp2
        simp [bodyPost, results, Try.results44, go_sem, r0, r1, r2, r3]
        exact below_four B2 _ _ _ _
      · rw [(num_ok hE h1 h2).1, (num_ok hE h1 h2).2]
        have es : se X = 0 := by unfold se; rw [if_pos h32, if_neg h2]
        have ev : sv X = sufN X X.length := by unfold sv; rw [if_pos h32, if_neg h2]
        rw [es, ev] at D
        clear es ev h2 h32 h1' h1'' hE hk
        generalize sufN X X.length = V at *
        generalize X.length = n at *
        generalize ts.length = m at *
        go_enter Try.func44, Try.ntmps44
        refine wp_seq_k fun K h => ?_
        have H : Hid _ := h
        clear h
        go_wp2_with fail
        refine H.out _ _ ?_
        clear H K
        refine wp_seq_k fun K h => ?_
        have H : Hid _ := h
        clear h
        go_wp2_with ((with_reducible refine (C.out _).mono ?_); rintro e1 w1 ⟨rfl, hw⟩; (have B1 : Below w.heap.size w w1 := (((Below.refl w.heap.size w).alloc (Nat.le_refl _) _).alloc (by simp) _).trans (hw.mono (by simp; omega))); (obtain ⟨x0, x1, x2⟩ : Bx w1 w.heap.size l (.slice (some ⟨g, 0, none⟩) n c1) (.slice a2 m c2) := Bx.keep ⟨by simp [go_sem], by simp [go_sem], by simp [go_sem]⟩ hw); (obtain ⟨r0, r1, r2, r3, f0, f1, f2, f3⟩ : Rz w1 (w.heap.size + 1) := Rz.keep ⟨by simp [go_sem], by simp [go_sem], by simp [go_sem], by simp [go_sem], by simp [go_sem], by simp [go_sem], by simp [go_sem], by simp [go_sem]⟩ (by simp) hw))
        refine H.out _ _ ?_
        clear H K
        refine wp_seq_k fun K h => ?_
        have H : Hid _ := h
        clear h
        go_wp2_with fail
        refine H.out _ _ ?_
        clear H K
        refine wp_seq_k fun K h => ?_
        have H : Hid _ := h
        clear h
        go_wp2_with ((with_reducible refine (D.out _ B1).mono ?_); rintro e2 w2 ⟨rfl, hw2⟩)
        refine H.out _ _ ?_
        clear H K
        have Q2 : Rz w2 (w.heap.size + 1) := Rz.keep ⟨r0, r1, r2, r3, f0, f1, f2, f3⟩ (World.block_lt_of_cell? _ _ r0) hw2
        have B2 := B1.trans (hw2.mono B1.size)
        refine wp_world (fun U => Below w.heap.size w U ∧ Rz U (w.heap.size + 1) ∧ U.cell? ⟨w2.heap.size, 0, none⟩ = some (.int .u64 (l0 V)) ∧ U.cell? ⟨w2.heap.size, 1, none⟩ = some (.int .u64 (l1 V)) ∧ U.cell? ⟨w2.heap.size, 2, none⟩ = some (.int .u64 (l2 V)) ∧ U.cell? ⟨w2.heap.size, 3, none⟩ = some (.int .u64 (l3 V))) ⟨B2.alloc B2.size _, Q2.keep (World.block_lt_of_cell? _ _ Q2.1) ((Below.refl _ _).alloc (Nat.le_refl _) _), by simp [go_sem], by simp [go_sem], by simp [go_sem], by simp [go_sem]⟩ ?_
        clear B2 Q2 hw2 r0 r1 r2 r3 f0 f1 f2 f3 x0 x1 x2 hw B1 C D
        generalize w2.heap.size = bv
        clear w2
        rintro U ⟨B2, ⟨r0, r1, r2, r3, f0, f1, f2, f3⟩, v0, v1, v2, v3⟩
        go_wp2
        simp [bodyPost, results, Try.results44, go_sem, r0, r1, r2, r3]
        exact below_four B2 _ _ _ _
  · rw [(num_bad hE).1, (num_bad hE).2]
    generalize wantE l X ts false = E at *
    have he : (E == 0) = false := by simpa using hE
    clear D hE
    obtain ⟨z0, z1, z2, z3⟩ := zero_limbs
    rw [z0, z1, z2, z3]
    clear z0 z1 z2 z3
    generalize X.length = n at *
    generalize ts.length = m at *
    go_enter Try.func44, Try.ntmps44
    go_wp2_with ((with_reducible refine (C.out _).mono ?_); rintro e1 w1 ⟨rfl, hw⟩; (have B1 : Below w.heap.size w w1 := (((Below.refl w.heap.size w).alloc (Nat.le_refl _) _).alloc (by simp) _).trans (hw.mono (by simp; omega))); (obtain ⟨x0, x1, x2⟩ : Bx w1 w.heap.size l (.slice (some ⟨g, 0, none⟩) n c1) (.slice a2 m c2) := Bx.keep ⟨by simp [go_sem], by simp [go_sem], by simp [go_sem]⟩ hw); (obtain ⟨r0, r1, r2, r3, f0, f1, f2, f3⟩ : Rz w1 (w.heap.size + 1) := Rz.keep ⟨by simp [go_sem], by simp [go_sem], by simp [go_sem], by simp [go_sem], by simp [go_sem], by simp [go_sem], by simp [go_sem], by simp [go_sem]⟩ (by simp) hw))
    simp [bodyPost, results, Try.results44, go_sem, r0, r1, r2, r3]
    exact below_four B1 _ _ _ _
end Go.Proofs.Ytaefmdofchjofaa
