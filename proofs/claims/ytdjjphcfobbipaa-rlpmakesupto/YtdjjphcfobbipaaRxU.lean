import Derived.Test.YtdjjphcfobbipaaRxT
import Derived.Test.YtdjjphcfobbipaaRsC
import Derived.Test.YtdjjphcfobbipaaDivAny
/- Layer 7: what is read of an item. -/
namespace Go.Proofs.Ytdjjphcfobbipaa
open Go.RowKit Go.Sort
/-- The error of an item that is to be a list, or a text. -/
def wantE (l : Bool) (X : List Int) (ts : List Tr) (k : Bool) : Int := if odd1 l X ts then 78 else if l = k then 0 else 75
def wantL (l : Bool) (X : List Int) (ts : List Tr) : List Int := if wantE l X ts false = 0 then X else []
def fixE (l : Bool) (X : List Int) (ts : List Tr) (n : Int) : Int := if n < 0 then 1 else if wantE l X ts false ≠ 0 then wantE l X ts false else if (X.length : Int) = n then 0 else 77
def fixL (l : Bool) (X : List Int) (ts : List Tr) (n : Int) : List Int := if fixE l X ts n = 0 then X else []
def numE (l : Bool) (X : List Int) (ts : List Tr) (m : Nat) : Int := if wantE l X ts false ≠ 0 then wantE l X ts false else if m < X.length then 77 else if X ≠ [] ∧ X.getD 0 0 = 0 then 76 else 0
def numV (l : Bool) (X : List Int) (ts : List Tr) (m : Nat) : Int := if numE l X ts m = 0 then sufN X X.length else 0
def listS (l : Bool) (X : List Int) (ts : List Tr) : List Tr := if wantE l X ts true = 0 then ts else []
set_option maxRecDepth 100000 in
set_option maxHeartbeats 4000000 in
theorem checkKind_any {l k : Bool} {X : List Int} {ts : List Tr} {a1 a2 : Option Addr} {c1 c2 : Nat} (w : World) :
    Calls Try.prog 48 #[.agg #[.bool l, .slice a1 X.length c1, .slice a2 ts.length c2], .bool k] w fun e w' => e = .returned (.int .i64 (wantE l X ts k)) ∧ Below w.heap.size w w' := by
  have C : Hid (∀ w, Calls Try.prog 62 #[.agg #[.bool l, .slice a1 X.length c1, .slice a2 ts.length c2]] w fun e w' => e = .returned (.bool (odd1 l X ts)) ∧ Below w.heap.size w w') := fun w => isOdd_any w
  unfold wantE
  generalize odd1 l X ts = od at *
  generalize X.length = n at *
  generalize ts.length = m at *
  have hb : ∀ od' : Bool, od' = od → ∀ lk : Bool, (l != k) = lk → (if od = true then (78 : Int) else if l = k then 0 else 75) = (if od' then 78 else if lk then 75 else 0) := fun od' h1 lk h2 => by subst h1; cases l <;> cases k <;> subst h2 <;> rfl
  obtain ⟨lk, hlk⟩ : ∃ lk, (l != k) = lk := ⟨_, rfl⟩
  rw [hb od rfl lk hlk]
  clear hb
  have hk : lk = false → l = k := fun e => by subst e; simpa using hlk
  cases od <;> cases lk
  all_goals simp only [Bool.false_eq_true, if_false, if_true]
  all_goals (
    first
      | (obtain rfl := hk rfl
         clear hk)
      | (have hlk2 : (l == k) = false := by simpa using hlk
         clear hk hlk)
    go_enter Try.func48, Try.ntmps48
    go_wp2_with ((with_reducible refine (C.out _).mono ?_); rintro e1 w1 ⟨rfl, hw⟩; (have B1 : Below w.heap.size w w1 := ((Below.refl w.heap.size w).alloc (Nat.le_refl _) _).trans (hw.mono (by simp))); (obtain ⟨x0, x1, x2⟩ : Bx w1 w.heap.size l (.slice a1 n c1) (.slice a2 m c2) := Bx.keep ⟨by simp [go_sem], by simp [go_sem], by simp [go_sem]⟩ hw))
    simp [bodyPost, results, Try.results48, go_sem]
    exact B1)
set_option maxRecDepth 100000 in
set_option maxHeartbeats 4000000 in
theorem rwanted_any {l k : Bool} {X : List Int} {ts : List Tr} {a1 a2 : Option Addr} {c1 c2 : Nat} (w : World) :
    Calls Try.prog 49 #[.agg #[.bool l, .slice a1 X.length c1, .slice a2 ts.length c2], .bool k] w fun e w' => e = .returned (.int .i64 (wantE l X ts k)) ∧ Below w.heap.size w w' := by
  have C : Hid (∀ w, Calls Try.prog 63 #[.agg #[.bool l, .slice a1 X.length c1, .slice a2 ts.length c2]] w fun e w' => e = .returned (.bool (odd1 l X ts)) ∧ Below w.heap.size w w') := fun w => rodd_any w
  unfold wantE
  generalize odd1 l X ts = od at *
  generalize X.length = n at *
  generalize ts.length = m at *
  have hb : ∀ od' : Bool, od' = od → ∀ lk : Bool, (l != k) = lk → (if od = true then (78 : Int) else if l = k then 0 else 75) = (if od' then 78 else if lk then 75 else 0) := fun od' h1 lk h2 => by subst h1; cases l <;> cases k <;> subst h2 <;> rfl
  obtain ⟨lk, hlk⟩ : ∃ lk, (l != k) = lk := ⟨_, rfl⟩
  rw [hb od rfl lk hlk]
  clear hb
  have hk : lk = false → l = k := fun e => by subst e; simpa using hlk
  cases od <;> cases lk
  all_goals simp only [Bool.false_eq_true, if_false, if_true]
  all_goals (
    first
      | (obtain rfl := hk rfl
         clear hk)
      | (have hlk2 : (l == k) = false := by simpa using hlk
         clear hk hlk)
    go_enter Try.func49, Try.ntmps49
    go_wp2_with ((with_reducible refine (C.out _).mono ?_); rintro e1 w1 ⟨rfl, hw⟩; (have B1 : Below w.heap.size w w1 := ((Below.refl w.heap.size w).alloc (Nat.le_refl _) _).trans (hw.mono (by simp))); (obtain ⟨x0, x1, x2⟩ : Bx w1 w.heap.size l (.slice a1 n c1) (.slice a2 m c2) := Bx.keep ⟨by simp [go_sem], by simp [go_sem], by simp [go_sem]⟩ hw))
    simp [bodyPost, results, Try.results49, go_sem]
    exact B1)
set_option maxRecDepth 100000 in
set_option maxHeartbeats 4000000 in
theorem getText_any {l : Bool} {X : List Int} {ts : List Tr} {a1 a2 : Option Addr} {b o c1 c2 : Nat} (hl : X.length < 16777216) (ha : Az a1 b o X) (w : World) (hz : Bz w b o X) :
    Calls Try.prog 22 #[.agg #[.bool l, .slice a1 X.length c1, .slice a2 ts.length c2]] w fun e w' => ∃ v, e = .returned (.tuple #[v, .int .i64 (wantE l X ts false)]) ∧ OwnB w.heap.size w' v (wantL l X ts) ∧ Below w.heap.size w w' := by
  have C : Hid (∀ w, Calls Try.prog 48 #[.agg #[.bool l, .slice a1 X.length c1, .slice a2 ts.length c2], .bool false] w fun e w' => e = .returned (.int .i64 (wantE l X ts false)) ∧ Below w.heap.size w w') := fun w => checkKind_any w
  have D : Hid (∀ W, Below w.heap.size w W → Calls Try.prog 41 #[.slice a1 X.length c1] W fun e w' => ∃ v, e = .returned v ∧ OwnB W.heap.size w' v X ∧ Below W.heap.size W w') := fun W B => bclone_all rfl (by omega) ha W (hz.keep B)
  unfold wantL
  generalize wantE l X ts false = E at *
  clear hl ha hz
  generalize hX : X.length = n at *
  generalize ts.length = m at *
  by_cases hE : E = 0
  · subst hE
    rw [if_pos rfl]
    go_enter Try.func22, Try.ntmps22
    go_wp2_with (first
      | ((with_reducible refine (C.out _).mono ?_); rintro e1 w1 ⟨rfl, hw⟩; (have B1 : Below w.heap.size w w1 := ((Below.refl w.heap.size w).alloc (Nat.le_refl _) _).trans (hw.mono (by simp))); (obtain ⟨x0, x1, x2⟩ : Bx w1 w.heap.size l (.slice a1 n c1) (.slice a2 m c2) := Bx.keep ⟨by simp [go_sem], by simp [go_sem], by simp [go_sem]⟩ hw))
      | ((with_reducible refine (D.out _ B1).mono ?_); rintro e2 w2 ⟨v, rfl, o2, hw2⟩))
    simp [bodyPost, results, Try.results22, go_sem]
    exact ⟨o2.base B1.size, B1.trans (hw2.mono B1.size)⟩
  · rw [if_neg hE]
    have he : (E == 0) = false := by simpa using hE
    go_enter Try.func22, Try.ntmps22
    go_wp2_with ((with_reducible refine (C.out _).mono ?_); rintro e1 w1 ⟨rfl, hw⟩; (have B1 : Below w.heap.size w w1 := ((Below.refl w.heap.size w).alloc (Nat.le_refl _) _).trans (hw.mono (by simp))); (obtain ⟨x0, x1, x2⟩ : Bx w1 w.heap.size l (.slice a1 n c1) (.slice a2 m c2) := Bx.keep ⟨by simp [go_sem], by simp [go_sem], by simp [go_sem]⟩ hw))
    simp [bodyPost, results, Try.results22, go_sem]
    exact ⟨OwnB.nil _ _, B1⟩
set_option maxRecDepth 100000 in
set_option maxHeartbeats 4000000 in
theorem rGetText_any {l : Bool} {X : List Int} {ts : List Tr} {a1 a2 : Option Addr} {b o c1 c2 : Nat} (hl : X.length < 16777216) (ha : Az a1 b o X) (hnc : a1 = none → c1 = 0) (w : World) (hz : Bz w b o X) :
    Calls Try.prog 23 #[.agg #[.bool l, .slice a1 X.length c1, .slice a2 ts.length c2]] w fun e w' => ∃ v, e = .returned (.tuple #[v, .int .i64 (wantE l X ts false)]) ∧ OwnB w.heap.size w' v (wantL l X ts) ∧ Below w.heap.size w w' := by
  have C : Hid (∀ w, Calls Try.prog 49 #[.agg #[.bool l, .slice a1 X.length c1, .slice a2 ts.length c2], .bool false] w fun e w' => e = .returned (.int .i64 (wantE l X ts false)) ∧ Below w.heap.size w w') := fun w => rwanted_any w
  have D : Hid (∀ W, Below w.heap.size w W → Calls Try.prog 40 #[.slice a1 X.length c1] W fun e w' => ∃ v, e = .returned v ∧ OwnB W.heap.size w' v X ∧ Below W.heap.size W w') := fun W B => r7bytes_any rfl (by omega) ha hnc W (hz.keep B)
  unfold wantL
  generalize wantE l X ts false = E at *
  clear hl ha hz hnc
  generalize hX : X.length = n at *
  generalize ts.length = m at *
  by_cases hE : E = 0
  · subst hE
    rw [if_pos rfl]
    go_enter Try.func23, Try.ntmps23
    go_wp2_with (first
      | ((with_reducible refine (C.out _).mono ?_); rintro e1 w1 ⟨rfl, hw⟩; (have B1 : Below w.heap.size w w1 := ((Below.refl w.heap.size w).alloc (Nat.le_refl _) _).trans (hw.mono (by simp))); (obtain ⟨x0, x1, x2⟩ : Bx w1 w.heap.size l (.slice a1 n c1) (.slice a2 m c2) := Bx.keep ⟨by simp [go_sem], by simp [go_sem], by simp [go_sem]⟩ hw))
      | ((with_reducible refine (D.out _ B1).mono ?_); rintro e2 w2 ⟨v, rfl, o2, hw2⟩))
    simp [bodyPost, results, Try.results23, go_sem]
    exact ⟨o2.base B1.size, B1.trans (hw2.mono B1.size)⟩
  · rw [if_neg hE]
    have he : (E == 0) = false := by simpa using hE
    go_enter Try.func23, Try.ntmps23
    go_wp2_with ((with_reducible refine (C.out _).mono ?_); rintro e1 w1 ⟨rfl, hw⟩; (have B1 : Below w.heap.size w w1 := ((Below.refl w.heap.size w).alloc (Nat.le_refl _) _).trans (hw.mono (by simp))); (obtain ⟨x0, x1, x2⟩ : Bx w1 w.heap.size l (.slice a1 n c1) (.slice a2 m c2) := Bx.keep ⟨by simp [go_sem], by simp [go_sem], by simp [go_sem]⟩ hw))
    simp [bodyPost, results, Try.results23, go_sem]
    exact ⟨OwnB.nil _ _, B1⟩
set_option maxRecDepth 100000 in
set_option maxHeartbeats 4000000 in
theorem getList_any {l : Bool} {X : List Int} {ts : List Tr} {a1 a2 : Option Addr} {b o c1 c2 : Nat} (hl : wtS ts < 4194304) (ha : ts = [] ∨ a2 = some ⟨b, o, none⟩) (w : World) (hz : Its w b o ts) :
    Calls Try.prog 31 #[.agg #[.bool l, .slice a1 X.length c1, .slice a2 ts.length c2]] w fun e w' => ∃ v ps, e = .returned (.tuple #[v, .int .i64 (wantE l X ts true)]) ∧ Oe w.heap.size w' v (listS l X ts) ps ∧ Below w.heap.size w w' := by
  have C : Hid (∀ w, Calls Try.prog 48 #[.agg #[.bool l, .slice a1 X.length c1, .slice a2 ts.length c2], .bool true] w fun e w' => e = .returned (.int .i64 (wantE l X ts true)) ∧ Below w.heap.size w w') := fun w => checkKind_any w
  have D : Hid (∀ W, Below w.heap.size w W → Calls Try.prog 46 #[.slice a2 ts.length c2] W fun e w' => ∃ v ps, e = .returned v ∧ Oe W.heap.size w' v ts ps ∧ Below W.heap.size W w') := fun W B => copies_any (.mk l X ts) (by exact hl) ha W (hz.keep B)
  unfold listS
  generalize wantE l X ts true = E at *
  clear hl ha hz
  generalize X.length = n at *
  generalize ts.length = m at *
  by_cases hE : E = 0
  · subst hE
    rw [if_pos rfl]
    go_enter Try.func31, Try.ntmps31
    go_wp2_with (first
      | ((with_reducible refine (C.out _).mono ?_); rintro e1 w1 ⟨rfl, hw⟩; (have B1 : Below w.heap.size w w1 := ((Below.refl w.heap.size w).alloc (Nat.le_refl _) _).trans (hw.mono (by simp))); (obtain ⟨x0, x1, x2⟩ : Bx w1 w.heap.size l (.slice a1 n c1) (.slice a2 m c2) := Bx.keep ⟨by simp [go_sem], by simp [go_sem], by simp [go_sem]⟩ hw))
      | ((with_reducible refine (D.out _ B1).mono ?_); rintro e2 w2 ⟨v, ps, rfl, o2, hw2⟩))
    simp [bodyPost, results, Try.results31, go_sem]
    exact ⟨o2.row.oe fun k _ hk => Nat.le_trans B1.size hk, B1.trans (hw2.mono B1.size)⟩
  · rw [if_neg hE]
    have he : (E == 0) = false := by simpa using hE
    go_enter Try.func31, Try.ntmps31
    go_wp2_with ((with_reducible refine (C.out _).mono ?_); rintro e1 w1 ⟨rfl, hw⟩; (have B1 : Below w.heap.size w w1 := ((Below.refl w.heap.size w).alloc (Nat.le_refl _) _).trans (hw.mono (by simp))); (obtain ⟨x0, x1, x2⟩ : Bx w1 w.heap.size l (.slice a1 n c1) (.slice a2 m c2) := Bx.keep ⟨by simp [go_sem], by simp [go_sem], by simp [go_sem]⟩ hw))
    simp [bodyPost, results, Try.results31, go_sem]
    exact ⟨⟨[], Oe.nil _ _⟩, B1⟩
set_option maxRecDepth 100000 in
set_option maxHeartbeats 4000000 in
theorem rGetList_any {l : Bool} {X : List Int} {ts : List Tr} {a1 a2 : Option Addr} {b o c1 c2 : Nat} (hl : wtS ts < 4194304) (ha : ts = [] ∨ a2 = some ⟨b, o, none⟩) (w : World) (hz : Its w b o ts) :
    Calls Try.prog 32 #[.agg #[.bool l, .slice a1 X.length c1, .slice a2 ts.length c2]] w fun e w' => ∃ v ps, e = .returned (.tuple #[v, .int .i64 (wantE l X ts true)]) ∧ Oe w.heap.size w' v (listS l X ts) ps ∧ Below w.heap.size w w' := by
  have C : Hid (∀ w, Calls Try.prog 49 #[.agg #[.bool l, .slice a1 X.length c1, .slice a2 ts.length c2], .bool true] w fun e w' => e = .returned (.int .i64 (wantE l X ts true)) ∧ Below w.heap.size w w') := fun w => rwanted_any w
  have D : Hid (∀ W, Below w.heap.size w W → Calls Try.prog 8 #[.slice a2 ts.length c2] W fun e w' => ∃ v ps, e = .returned v ∧ Oe W.heap.size w' v ts ps ∧ Below W.heap.size W w') := fun W B => rCopy_any (.mk l X ts) (by exact hl) ha W (hz.keep B)
  unfold listS
  generalize wantE l X ts true = E at *
  clear hl ha hz
  generalize X.length = n at *
  generalize ts.length = m at *
  by_cases hE : E = 0
  · subst hE
    rw [if_pos rfl]
    go_enter Try.func32, Try.ntmps32
    go_wp2_with (first
      | ((with_reducible refine (C.out _).mono ?_); rintro e1 w1 ⟨rfl, hw⟩; (have B1 : Below w.heap.size w w1 := ((Below.refl w.heap.size w).alloc (Nat.le_refl _) _).trans (hw.mono (by simp))); (obtain ⟨x0, x1, x2⟩ : Bx w1 w.heap.size l (.slice a1 n c1) (.slice a2 m c2) := Bx.keep ⟨by simp [go_sem], by simp [go_sem], by simp [go_sem]⟩ hw))
      | ((with_reducible refine (D.out _ B1).mono ?_); rintro e2 w2 ⟨v, ps, rfl, o2, hw2⟩))
    simp [bodyPost, results, Try.results32, go_sem]
    exact ⟨o2.row.oe fun k _ hk => Nat.le_trans B1.size hk, B1.trans (hw2.mono B1.size)⟩
  · rw [if_neg hE]
    have he : (E == 0) = false := by simpa using hE
    go_enter Try.func32, Try.ntmps32
    go_wp2_with ((with_reducible refine (C.out _).mono ?_); rintro e1 w1 ⟨rfl, hw⟩; (have B1 : Below w.heap.size w w1 := ((Below.refl w.heap.size w).alloc (Nat.le_refl _) _).trans (hw.mono (by simp))); (obtain ⟨x0, x1, x2⟩ : Bx w1 w.heap.size l (.slice a1 n c1) (.slice a2 m c2) := Bx.keep ⟨by simp [go_sem], by simp [go_sem], by simp [go_sem]⟩ hw))
    simp [bodyPost, results, Try.results32, go_sem]
    exact ⟨⟨[], Oe.nil _ _⟩, B1⟩
end Go.Proofs.Ytdjjphcfobbipaa
