import Derived.Test.YtaefmdofchjofaaCmp
import Derived.StillTail
import Derived.BigQuiet
import Derived.Below
import Derived.Test.YtaefmdofchjofaaNum
import Derived.Lib.QuietBelow
import Derived.Deep.RegionHeld
import Derived.LoopN
import Derived.Test.YtaefmdofchjofaaRows
import Derived.WalkKit
import Derived.WalkSpells
import Derived.WalkLawsBesides
import Derived.Laws.Externs
import Derived.Shelf.Spec.BitsCarry
import Derived.Lib.Mul64
import Derived.Laws.Bits64b
import Derived.BigRegion
import Derived.Deep.RegionWith
namespace Go.Proofs.Ytaefmdofchjofaa
open Go.RowKit Go.Sort

/-- Block b holds the number n: four limbs. -/
def Hold (W : World) (b : Nat) (n : Int) : Prop :=
  W.cell? ⟨b, 0, none⟩ = some (.int .u64 (l0 n)) ∧ W.cell? ⟨b, 1, none⟩ = some (.int .u64 (l1 n)) ∧ W.cell? ⟨b, 2, none⟩ = some (.int .u64 (l2 n)) ∧ W.cell? ⟨b, 3, none⟩ = some (.int .u64 (l3 n))

theorem cell_keep {W w1 : World} {p : Addr} {v : Value} (hb : Below W.heap.size W w1) (h : W.cell? p = some v) : w1.cell? p = some v := by
  rw [hb.cell (World.block_lt_of_cell? W p h)]; exact h
theorem Hold.keep {W w1 : World} {b : Nat} {n : Int} (h : Hold W b n) (hb : Below W.heap.size W w1) : Hold w1 b n :=
  ⟨cell_keep hb h.1, cell_keep hb h.2.1, cell_keep hb h.2.2.1, cell_keep hb h.2.2.2⟩
theorem Hold.alloc {W : World} {b : Nat} {n : Int} (h : Hold W b n) (o : Obj) : Hold (W.alloc o) b n :=
  h.keep ((Below.refl _ _).alloc (Nat.le_refl _) o)
theorem Hold.new (W : World) (n : Int) (t : TypeId) : Hold (W.alloc (.cells #[.int .u64 (l0 n), .int .u64 (l1 n), .int .u64 (l2 n), .int .u64 (l3 n)] t)) W.heap.size n := by
  refine ⟨?_, ?_, ?_, ?_⟩ <;> simp [go_sem]
/-- The world under one name, with what is known of it. -/
theorem calls_world {P : Program} {f : FuncId} {args : Array Value} {w : World} {R : Ending → World → Prop} (S : World → Prop) (h : S w) (k : ∀ W, S W → Calls P f args W R) : Calls P f args w R := k w h
theorem wp_world {P : Program} {c : Code} {Q : Exit → Act → World → Prop} {a : Act} {w : World} (S : World → Prop) (h : S w) (k : ∀ W, S W → c.wp P Q a W) : c.wp P Q a w := k w h

end Go.Proofs.Ytaefmdofchjofaa

namespace Go.Proofs.Ytaefmdofchjofaa
open Go.RowKit

/-- Block b holds these limbs, from its first cell on. -/
def Row (W : World) (b : Nat) (l : List Int) : Prop := ∀ i, i < l.length → W.cell? ⟨b, i, none⟩ = some (.int .u64 (l.getD i 0))
/-- The first n cells of block b may be written. -/
def Loose (W : World) (b n : Nat) : Prop := ∀ i, i < n → W.frozen? ⟨b, i, none⟩ = false

theorem Row.lt {W : World} {b : Nat} {l : List Int} (h : Row W b l) (hl : 0 < l.length) : b < W.heap.size := World.block_lt_of_cell? W ⟨b, 0, none⟩ (h 0 hl)
theorem Row.keep {W w1 : World} {b : Nat} {l : List Int} (h : Row W b l) (hb : Below W.heap.size W w1) : Row w1 b l := fun i hi => cell_keep hb (h i hi)
theorem Loose.keep {W w1 : World} {b n : Nat} (h : Loose W b n) (hb : Below W.heap.size W w1) (hlt : b < W.heap.size) : Loose w1 b n := fun i hi => by rw [hb.frozen (p := ⟨b, i, none⟩) hlt]; exact h i hi
end Go.Proofs.Ytaefmdofchjofaa

namespace Go.Proofs.Ytaefmdofchjofaa
open Go.RowKit

theorem Row.new (W : World) (l : List Int) (t : TypeId) : Row (W.alloc (.cells (l.map (Value.int .u64)).toArray t)) W.heap.size l := by
  intro i hi
  rw [World.cell?_alloc_mark]
  simp [List.getElem?_map, List.getD, List.getElem?_eq_getElem hi]
theorem Loose.new (W : World) (cs : Array Value) (t : TypeId) (n : Nat) : Loose (W.alloc (.cells cs t)) W.heap.size n := fun i _ => by simp [go_sem]
theorem Row.set {W : World} {b : Nat} {l : List Int} (h : Row W b l) (i : Nat) (hi : i < l.length) (v : Int) : Row (W.setCell ⟨b, i, none⟩ (.int .u64 v)) b (l.set i v) := by
  intro j hj
  simp at hj
  by_cases e : i = j
  · subst e
    rw [World.cell?_setCell_same _ _ _ (h i hi)]
    simp [List.getD, hi]
  · have ne : (⟨b, i, none⟩ : Addr) ≠ ⟨b, j, none⟩ := by first | (simp; done) | (simp; omega)
    rw [World.cell?_setCell_other _ _ _ _ ne, h j hj]
    simp [List.getD, List.getElem?_set_ne e]
theorem Row.setOther {W : World} {b : Nat} {l : List Int} (h : Row W b l) {p : Addr} (hp : p.block ≠ b) (v : Value) : Row (W.setCell p v) b l := fun j hj => by
  rw [World.cell?_setCell_far _ _ _ _ hp]; exact h j hj
theorem Loose.set {W : World} {b n : Nat} (h : Loose W b n) (p : Addr) (v : Value) : Loose (W.setCell p v) b n := fun j hj => by rw [World.frozen?_setCell]; exact h j hj
theorem Row.drew {W : World} {b : Nat} {l : List Int} (h : Row W b l) : Row W.drew b l := h
theorem Loose.drew {W : World} {b n : Nat} (h : Loose W b n) : Loose W.drew b n := h

end Go.Proofs.Ytaefmdofchjofaa

namespace Go.Proofs.Ytaefmdofchjofaa
open Go.RowKit Go.Sort

theorem Hold.set {W : World} {b b' i : Nat} {n : Int} (h : Hold W b n) (ne : b' ≠ b) (v : Value) : Hold (W.setCell ⟨b', i, none⟩ v) b n := by
  refine ⟨?_, ?_, ?_, ?_⟩ <;> rw [World.cell?_setCell_far _ _ _ _ ne]
  · exact h.1
  · exact h.2.1
  · exact h.2.2.1
  · exact h.2.2.2
theorem Row.all4 {W : World} {b : Nat} {x0 x1 x2 x3 : Int} (h : Row W b [x0, x1, x2, x3]) : W.cell? ⟨b, 0, none⟩ = some (.int .u64 x0) ∧ W.cell? ⟨b, 1, none⟩ = some (.int .u64 x1) ∧ W.cell? ⟨b, 2, none⟩ = some (.int .u64 x2) ∧ W.cell? ⟨b, 3, none⟩ = some (.int .u64 x3) :=
  ⟨h 0 (by simp), h 1 (by simp), h 2 (by simp), h 3 (by simp)⟩
theorem Loose.all4 {W : World} {b : Nat} (h : Loose W b 4) : W.frozen? ⟨b, 0, none⟩ = false ∧ W.frozen? ⟨b, 1, none⟩ = false ∧ W.frozen? ⟨b, 2, none⟩ = false ∧ W.frozen? ⟨b, 3, none⟩ = false := ⟨h 0 (by simp), h 1 (by simp), h 2 (by simp), h 3 (by simp)⟩

theorem below_set4 {w W : World} {b' : Nat} (h : Below w.heap.size w W) (le : w.heap.size ≤ b') (v0 v1 v2 v3 : Value) : Below w.heap.size w ((((W.setCell ⟨b', 0, none⟩ v0).setCell ⟨b', 1, none⟩ v1).setCell ⟨b', 2, none⟩ v2).setCell ⟨b', 3, none⟩ v3) :=
  (((h.setCell le v0).setCell le v1).setCell le v2).setCell le v3
/-- Block b holds 0 and may be written. -/
def Blank (W : World) (b : Nat) : Prop := Row W b [0, 0, 0, 0] ∧ Loose W b 4
theorem Blank.keep {W w1 : World} {b : Nat} (h : Blank W b) (hb : Below W.heap.size W w1) : Blank w1 b := ⟨h.1.keep hb, h.2.keep hb (h.1.lt (by simp))⟩
theorem Blank.alloc {W : World} {b : Nat} (h : Blank W b) (o : Obj) : Blank (W.alloc o) b := h.keep ((Below.refl _ _).alloc (Nat.le_refl _) o)
theorem Blank.drew {W : World} {b : Nat} (h : Blank W b) : Blank W.drew b := h
theorem Blank.set {W : World} {b b' i : Nat} (h : Blank W b) (ne : b' ≠ b) (v : Value) : Blank (W.setCell ⟨b', i, none⟩ v) b := ⟨h.1.setOther ne v, h.2.set _ v⟩
end Go.Proofs.Ytaefmdofchjofaa

namespace Go.Proofs.Ytaefmdofchjofaa
open Go.RowKit

theorem Hold.row {W : World} {b : Nat} {n : Int} (h : Hold W b n) : Row W b [l0 n, l1 n, l2 n, l3 n] := by
  intro i hi
  simp at hi
  match i, hi with
  | 0, _ => exact h.1
  | 1, _ => exact h.2.1
  | 2, _ => exact h.2.2.1
  | 3, _ => exact h.2.2.2
end Go.Proofs.Ytaefmdofchjofaa

namespace Go.Proofs.Ytaefmdofchjofaa
open Go.RowKit

theorem Blank.new {W : World} {b : Nat} {t : TypeId} (e : b = W.heap.size) : Blank (W.alloc (.cells #[.int .u64 0, .int .u64 0, .int .u64 0, .int .u64 0] t)) b := by
  subst e; exact ⟨Row.new W [0, 0, 0, 0] t, Loose.new _ _ _ _⟩
end Go.Proofs.Ytaefmdofchjofaa

namespace Go.Proofs.Ytaefmdofchjofaa
open Go.RowKit

def cmpL (x0 x1 x2 x3 y0 y1 y2 y3 : Int) : Int := if x3 < y3 then -1 else if y3 < x3 then 1 else if x2 < y2 then -1 else if y2 < x2 then 1 else if x1 < y1 then -1 else if y1 < x1 then 1 else if x0 < y0 then -1 else if y0 < x0 then 1 else 0

theorem cmpL_eq {n m : Int} (hn : Num n) (hm : Num m) : cmpL (l0 n) (l1 n) (l2 n) (l3 n) (l0 m) (l1 m) (l2 m) (l3 m) = cmpN n m := by
  have e1 := num_l hn; have e2 := num_l hm
  unfold num at e1 e2
  obtain ⟨_, _⟩ := l0_word n; obtain ⟨_, _⟩ := l1_word n; obtain ⟨_, _⟩ := l2_word n; obtain ⟨_, _⟩ := l3_word n
  obtain ⟨_, _⟩ := l0_word m; obtain ⟨_, _⟩ := l1_word m; obtain ⟨_, _⟩ := l2_word m; obtain ⟨_, _⟩ := l3_word m
  generalize l0 n = x0 at *; generalize l1 n = x1 at *; generalize l2 n = x2 at *; generalize l3 n = x3 at *
  generalize l0 m = y0 at *; generalize l1 m = y1 at *; generalize l2 m = y2 at *; generalize l3 m = y3 at *
  unfold cmpL cmpN
  by_cases h : n = m
  · rw [if_pos h]
    have : x3 = y3 := by omega
    have : x2 = y2 := by omega
    have : x1 = y1 := by omega
    have : x0 = y0 := by omega
    repeat rw [if_neg (by omega)]
  · rw [if_neg h]
    by_cases h2 : n < m
    · rw [if_pos h2]
      by_cases a3 : x3 < y3
      · rw [if_pos a3]
      rw [if_neg a3, if_neg (show ¬ y3 < x3 by omega)]
      by_cases a2 : x2 < y2
      · rw [if_pos a2]
      rw [if_neg a2, if_neg (show ¬ y2 < x2 by omega)]
      by_cases a1 : x1 < y1
      · rw [if_pos a1]
      rw [if_neg a1, if_neg (show ¬ y1 < x1 by omega), if_pos (show x0 < y0 by omega)]
    · rw [if_neg h2]
      by_cases a3 : y3 < x3
      · rw [if_neg (show ¬ x3 < y3 by omega), if_pos a3]
      rw [if_neg (show ¬ x3 < y3 by omega), if_neg a3]
      by_cases a2 : y2 < x2
      · rw [if_neg (show ¬ x2 < y2 by omega), if_pos a2]
      rw [if_neg (show ¬ x2 < y2 by omega), if_neg a2]
      by_cases a1 : y1 < x1
      · rw [if_neg (show ¬ x1 < y1 by omega), if_pos a1]
      rw [if_neg (show ¬ x1 < y1 by omega), if_neg a1, if_neg (show ¬ x0 < y0 by omega), if_pos (show y0 < x0 by omega)]

set_option maxHeartbeats 2000000 in
theorem rcmp_limbs (x0 x1 x2 x3 y0 y1 y2 y3 : Int) (w : World) :
    Calls Try.prog 79 #[.agg #[.int .u64 x0, .int .u64 x1, .int .u64 x2, .int .u64 x3], .agg #[.int .u64 y0, .int .u64 y1, .int .u64 y2, .int .u64 y3]] w fun e w' => e = .returned (.int .i64 (cmpL x0 x1 x2 x3 y0 y1 y2 y3)) ∧ Below w.heap.size w w' := by
  go_enter Try.func79, Try.ntmps79
  go_wp2
  refine wp_loop_rounds 5 ?_
  rw [rounds_succ]
  by_cases a3 : x3 < y3
  · have ec : cmpL x0 x1 x2 x3 y0 y1 y2 y3 = -1 := by unfold cmpL; rw [if_pos a3]
    go_wp2
    repeat (go_region; go_wp2)
    simp [bodyPost, results, Try.results79, go_sem, ec]
    repeat (first | with_reducible exact Below.refl _ _ | with_reducible refine Below.drew ?_ | with_reducible refine Below.alloc ?_ (by first | omega | (simp; done) | (simp; omega)) _)
  by_cases b3 : y3 < x3
  · have ec : cmpL x0 x1 x2 x3 y0 y1 y2 y3 = 1 := by unfold cmpL; rw [if_neg (show ¬ x3 < y3 by omega), if_pos b3]
    go_wp2
    repeat (go_region; go_wp2)
    simp [bodyPost, results, Try.results79, go_sem, ec]
    repeat (first | with_reducible exact Below.refl _ _ | with_reducible refine Below.drew ?_ | with_reducible refine Below.alloc ?_ (by first | omega | (simp; done) | (simp; omega)) _)
  go_wp2
  repeat (go_region; go_wp2)
  rw [rounds_succ]
  by_cases a2 : x2 < y2
  · have ec : cmpL x0 x1 x2 x3 y0 y1 y2 y3 = -1 := by unfold cmpL; rw [if_neg (show ¬ x3 < y3 by omega), if_neg (show ¬ y3 < x3 by omega), if_pos a2]
    go_wp2
    repeat (go_region; go_wp2)
    simp [bodyPost, results, Try.results79, go_sem, ec]
    repeat (first | with_reducible exact Below.refl _ _ | with_reducible refine Below.drew ?_ | with_reducible refine Below.alloc ?_ (by first | omega | (simp; done) | (simp; omega)) _)
  by_cases b2 : y2 < x2
  · have ec : cmpL x0 x1 x2 x3 y0 y1 y2 y3 = 1 := by unfold cmpL; rw [if_neg (show ¬ x3 < y3 by omega), if_neg (show ¬ y3 < x3 by omega), if_neg (show ¬ x2 < y2 by omega), if_pos b2]
    go_wp2
    repeat (go_region; go_wp2)
    simp [bodyPost, results, Try.results79, go_sem, ec]
    repeat (first | with_reducible exact Below.refl _ _ | with_reducible refine Below.drew ?_ | with_reducible refine Below.alloc ?_ (by first | omega | (simp; done) | (simp; omega)) _)
  go_wp2
  repeat (go_region; go_wp2)
  rw [rounds_succ]
  by_cases a1 : x1 < y1
  · have ec : cmpL x0 x1 x2 x3 y0 y1 y2 y3 = -1 := by unfold cmpL; rw [if_neg (show ¬ x3 < y3 by omega), if_neg (show ¬ y3 < x3 by omega), if_neg (show ¬ x2 < y2 by omega), if_neg (show ¬ y2 < x2 by omega), if_pos a1]
    go_wp2
    repeat (go_region; go_wp2)
    simp [bodyPost, results, Try.results79, go_sem, ec]
    repeat (first | with_reducible exact Below.refl _ _ | with_reducible refine Below.drew ?_ | with_reducible refine Below.alloc ?_ (by first | omega | (simp; done) | (simp; omega)) _)
  by_cases b1 : y1 < x1
  · have ec : cmpL x0 x1 x2 x3 y0 y1 y2 y3 = 1 := by unfold cmpL; rw [if_neg (show ¬ x3 < y3 by omega), if_neg (show ¬ y3 < x3 by omega), if_neg (show ¬ x2 < y2 by omega), if_neg (show ¬ y2 < x2 by omega), if_neg (show ¬ x1 < y1 by omega), if_pos b1]
    go_wp2
    repeat (go_region; go_wp2)
    simp [bodyPost, results, Try.results79, go_sem, ec]
    repeat (first | with_reducible exact Below.refl _ _ | with_reducible refine Below.drew ?_ | with_reducible refine Below.alloc ?_ (by first | omega | (simp; done) | (simp; omega)) _)
  go_wp2
  repeat (go_region; go_wp2)
  rw [rounds_succ]
  by_cases a0 : x0 < y0
  · have ec : cmpL x0 x1 x2 x3 y0 y1 y2 y3 = -1 := by unfold cmpL; rw [if_neg (show ¬ x3 < y3 by omega), if_neg (show ¬ y3 < x3 by omega), if_neg (show ¬ x2 < y2 by omega), if_neg (show ¬ y2 < x2 by omega), if_neg (show ¬ x1 < y1 by omega), if_neg (show ¬ y1 < x1 by omega), if_pos a0]
    go_wp2
    repeat (go_region; go_wp2)
    simp [bodyPost, results, Try.results79, go_sem, ec]
    repeat (first | with_reducible exact Below.refl _ _ | with_reducible refine Below.drew ?_ | with_reducible refine Below.alloc ?_ (by first | omega | (simp; done) | (simp; omega)) _)
  by_cases b0 : y0 < x0
  · have ec : cmpL x0 x1 x2 x3 y0 y1 y2 y3 = 1 := by unfold cmpL; rw [if_neg (show ¬ x3 < y3 by omega), if_neg (show ¬ y3 < x3 by omega), if_neg (show ¬ x2 < y2 by omega), if_neg (show ¬ y2 < x2 by omega), if_neg (show ¬ x1 < y1 by omega), if_neg (show ¬ y1 < x1 by omega), if_neg (show ¬ x0 < y0 by omega), if_pos b0]
    go_wp2
    repeat (go_region; go_wp2)
    simp [bodyPost, results, Try.results79, go_sem, ec]
    repeat (first | with_reducible exact Below.refl _ _ | with_reducible refine Below.drew ?_ | with_reducible refine Below.alloc ?_ (by first | omega | (simp; done) | (simp; omega)) _)
  go_wp2
  repeat (go_region; go_wp2)
  rw [rounds_succ]
  have ec : cmpL x0 x1 x2 x3 y0 y1 y2 y3 = 0 := by unfold cmpL; rw [if_neg (show ¬ x3 < y3 by omega), if_neg (show ¬ y3 < x3 by omega), if_neg (show ¬ x2 < y2 by omega), if_neg (show ¬ y2 < x2 by omega), if_neg (show ¬ x1 < y1 by omega), if_neg (show ¬ y1 < x1 by omega), if_neg (show ¬ x0 < y0 by omega), if_neg (show ¬ y0 < x0 by omega)]
  go_wp2
  simp [bodyPost, results, Try.results79, go_sem, ec]
  repeat (first | with_reducible exact Below.refl _ _ | with_reducible refine Below.drew ?_ | with_reducible refine Below.alloc ?_ (by first | omega | (simp; done) | (simp; omega)) _)

theorem rcmp_any {n m : Int} (hn : Num n) (hm : Num m) (w : World) :
    Calls Try.prog 79 #[.agg #[.int .u64 (l0 n), .int .u64 (l1 n), .int .u64 (l2 n), .int .u64 (l3 n)], .agg #[.int .u64 (l0 m), .int .u64 (l1 m), .int .u64 (l2 m), .int .u64 (l3 m)]] w fun e w' => e = .returned (.int .i64 (cmpN n m)) ∧ Below w.heap.size w w' := by
  rw [← cmpL_eq hn hm]; exact rcmp_limbs _ _ _ _ _ _ _ _ w

theorem rfrom_any {v : Int} (h : Word v) (w : World) :
    Calls Try.prog 38 #[.int .u64 v] w fun e w' => e = .returned (.agg #[.int .u64 (l0 v), .int .u64 (l1 v), .int .u64 (l2 v), .int .u64 (l3 v)]) ∧ Below w.heap.size w w' := by
  obtain ⟨r0, r1, r2, r3⟩ := from_val h
  rw [r0, r1, r2, r3]
  clear r0 r1 r2 r3
  go_enter Try.func38, Try.ntmps38
  go_wp2
  simp [bodyPost, results, Try.results38, go_sem]
  repeat (first | with_reducible exact Below.refl _ _ | with_reducible refine Below.drew ?_ | with_reducible refine Below.alloc ?_ (by first | omega | (simp; done) | (simp; omega)) _)

end Go.Proofs.Ytaefmdofchjofaa
