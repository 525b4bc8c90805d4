import Derived.Test.YtahekhamhdfkdaaRxC
import Derived.Test.YtahekhamhdfkdaaRjC
/- Layer 7: Size, Check of the program. -/
namespace Go.Proofs.Ytahekhamhdfkdaa
open Go.RowKit Go.Sort

/-- The error of a tree. -/
def errT (t : Tr) : Int := if oddT t then 78 else if 1024 < dpT t then 74 else 0
/-- Its size, where there is no error. -/
def sizT (t : Tr) : Int := if errT t = 0 then ((encT t).length : Int) else 0
set_option maxRecDepth 100000 in
set_option maxHeartbeats 4000000 in
theorem Size_any {t : Tr} {d q : Value} (hw : wtT t < 4194304) (w : World) (h : It w t d q) :
    Calls Try.prog 19 #[itV t d q] w fun e w' => e = .returned (.tuple #[.int .i64 (sizT t), .int .i64 (errT t)]) ∧ Below w.heap.size w w' := by
  have M : Hid (∀ W, Below w.heap.size w W → Calls Try.prog 36 #[.agg #[.bool t.l, d, q]] W fun e w' => e = .returned (mV t) ∧ Below W.heap.size W w') := fun W B => measured_any t hw W (It.keep B t h)
  have hE := encT_len t
  have b3 : decide ((16777216 : Int) < ((encT t).length : Int)) = false := decide_eq_false (by omega)
  have dq : ∃ k1 k2 k3 k4 k5 k6, d = .slice k1 k2 k3 ∧ q = .slice k4 k5 k6 := by
    revert h
    cases t with
    | mk l' X' ts' =>
      intro e2
      rw [It] at e2
      obtain ⟨⟨k1, _, _, k3, h1, _⟩, k4, _, _, k6, h2, _⟩ := e2
      exact ⟨_, _, _, _, _, _, h1, h2⟩
  obtain ⟨k1, k2, k3, k4, k5, k6, rfl, rfl⟩ := dq
  have MZ : mV t = if oddT t then .agg #[.bool true, .int .i64 0, .int .i64 0] else .agg #[.bool false, .int .i64 (dpT t), .int .i64 (encT t).length] := rfl
  unfold itV
  clear hE hw h
  by_cases ho : oddT t = true
  · have es : sizT t = 0 := by unfold sizT errT; rw [if_pos ho]; rfl
    have ee : errT t = 78 := by unfold errT; rw [if_pos ho]
    rw [if_pos ho] at MZ
    rw [MZ] at M
    rw [es, ee]
    generalize t.l = l at *
    clear b3 ho es ee MZ t
    go_enter Try.func19, Try.ntmps19
    go_wp2_with ((with_reducible refine (M.out _ ((Below.refl _ _).alloc (Nat.le_refl _) _)).mono ?_); rintro e1 w1 ⟨rfl, hw⟩; (have B1 : Below w.heap.size w w1 := ((Below.refl w.heap.size w).alloc (Nat.le_refl _) _).trans (hw.mono (by simp))); (clear hw))
    all_goals simp [bodyPost, results, Try.results19, go_sem]
    all_goals exact B1.alloc B1.size _
  · rw [if_neg ho] at MZ
    rw [MZ] at M
    clear MZ
    by_cases hd : 1024 < dpT t
    · have ee : errT t = 74 := by unfold errT; rw [if_neg ho, if_pos hd]
      have es : sizT t = 0 := by unfold sizT; rw [ee]; rfl
      have hd' : (1024 : Int) < (dpT t : Int) := by omega
      rw [es, ee]
      generalize t.l = l at *
      generalize dpT t = D at *
      generalize (encT t).length = E at *
      clear b3 ho es ee t hd
      go_enter Try.func19, Try.ntmps19
      go_wp2_with ((with_reducible refine (M.out _ ((Below.refl _ _).alloc (Nat.le_refl _) _)).mono ?_); rintro e1 w1 ⟨rfl, hw⟩; (have B1 : Below w.heap.size w w1 := ((Below.refl w.heap.size w).alloc (Nat.le_refl _) _).trans (hw.mono (by simp))); (clear hw))
      all_goals simp [bodyPost, results, Try.results19, go_sem]
      all_goals exact B1.alloc B1.size _
    · have ee : errT t = 0 := by unfold errT; rw [if_neg ho, if_neg hd]
      have es : sizT t = ((encT t).length : Int) := by unfold sizT; rw [ee]; rfl
      have hd' : decide ((1024 : Int) < (dpT t : Int)) = false := decide_eq_false (by omega)
      rw [es, ee]
      generalize t.l = l at *
      generalize dpT t = D at *
      generalize (encT t).length = E at *
      clear ho es ee t hd
      go_enter Try.func19, Try.ntmps19
      go_wp2_with ((with_reducible refine (M.out _ ((Below.refl _ _).alloc (Nat.le_refl _) _)).mono ?_); rintro e1 w1 ⟨rfl, hw⟩; (have B1 : Below w.heap.size w w1 := ((Below.refl w.heap.size w).alloc (Nat.le_refl _) _).trans (hw.mono (by simp))); (clear hw))
      all_goals simp [bodyPost, results, Try.results19, go_sem]
      all_goals exact B1.alloc B1.size _
end Go.Proofs.Ytahekhamhdfkdaa

/- Layer 7: the document's head of a text; its size. -/
namespace Go.Proofs.Ytahekhamhdfkdaa
open Go.RowKit Go.Sort

end Go.Proofs.Ytahekhamhdfkdaa

/- Layer 7: the document's Check, Size. -/
namespace Go.Proofs.Ytahekhamhdfkdaa
open Go.RowKit Go.Sort

theorem It.slices {W : World} {t : Tr} {d q : Value} (h : It W t d q) : ∃ k1 k2 k3 k4 k5 k6, d = .slice k1 k2 k3 ∧ q = .slice k4 k5 k6 := by
  revert h
  cases t with
  | mk l' X' ts' =>
    intro e2
    rw [It] at e2
    obtain ⟨⟨k1, _, _, k3, h1, _⟩, k4, _, _, k6, h2, _⟩ := e2
    exact ⟨_, _, _, _, _, _, h1, h2⟩
end Go.Proofs.Ytahekhamhdfkdaa

/- Layer 7: the document's put. -/
namespace Go.Proofs.Ytahekhamhdfkdaa
open Go.RowKit Go.Sort

/-- What is kept but for the blocks of S. -/
structure ChgT (S : Nat → Prop) (w w' : World) : Prop where
  os : w'.os = w.os
  tape : w'.tape = w.tape
  output : w'.output = w.output
  size : w.heap.size ≤ w'.heap.size
  block : ∀ k, k < w.heap.size → ¬ S k → w'.heap[k]? = w.heap[k]?
theorem ChgT.refl (S : Nat → Prop) (w : World) : ChgT S w w := ⟨rfl, rfl, rfl, Nat.le_refl _, fun _ _ _ => rfl⟩
theorem ChgT.trans {S T : Nat → Prop} {w w1 w2 : World} (h : ChgT S w w1) (k : ChgT T w1 w2) (hT : ∀ j, T j → S j ∨ w.heap.size ≤ j) : ChgT S w w2 :=
  ⟨k.os.trans h.os, k.tape.trans h.tape, k.output.trans h.output, Nat.le_trans h.size k.size, fun j hj hn => (k.block j (Nat.lt_of_lt_of_le hj h.size) (fun t => by
    rcases hT j t with s | s
    · exact hn s
    · omega)).trans (h.block j hj hn)⟩
theorem ChgT.of_below {S : Nat → Prop} {w w' : World} (h : Below w.heap.size w w') : ChgT S w w' := ⟨h.os, h.tape, h.output, h.size, fun k hk _ => h.block k hk⟩
theorem ChgT.of_grown {row : Option Nat} {w w' : World} (h : w.grownBy w' row) : ChgT (fun k => row = some k) w w' := ⟨h.os, h.tape, h.output, h.size, fun k hk hn => h.block k hk (fun e => hn e.symm)⟩
theorem ChgT.below {S : Nat → Prop} {B : Nat} {w w' : World} (h : ChgT S w w') (hB : B ≤ w.heap.size) (hS : ∀ k, S k → B ≤ k) : Below B w w' := ⟨h.os, h.tape, h.output, h.size, fun k hk => h.block k (by omega) (fun s => by have := hS k s; omega)⟩
theorem ChgT.cell {S : Nat → Prop} {w w' : World} (h : ChgT S w w') {b i : Nat} {v : Value} (hs : ¬ S b) (hc : w.cell? ⟨b, i, none⟩ = some v) : w'.cell? ⟨b, i, none⟩ = some v := by
  rw [World.cell?_of_block (w := w) (a := ⟨b, i, none⟩) (h.block b (World.block_lt_of_cell? w _ hc) hs)]; exact hc
theorem Bx.chg {S : Nat → Prop} {w w' : World} (h : ChgT S w w') {b : Nat} {l : Bool} {d q : Value} (hs : ¬ S b) (x : Bx w b l d q) : Bx w' b l d q := ⟨h.cell hs x.1, h.cell hs x.2.1, h.cell hs x.2.2⟩
end Go.Proofs.Ytahekhamhdfkdaa

/- Layer 7: the document's put, of a list. -/
namespace Go.Proofs.Ytahekhamhdfkdaa
open Go.RowKit Go.Sort

/-- Bytes of one's own, put on: what is kept, whose the row is. -/
structure Pu (B : Nat) (w w' : World) (v v' : Value) (X : List Int) : Prop where
  own : OwnB B w' v' X
  chg : ChgT (fun k => v.ownBlock = some k) w w'
  row : ∀ k, v'.ownBlock = some k → v.ownBlock = some k ∨ w.heap.size ≤ k
theorem Pu.trans {B : Nat} {w w1 w2 : World} {v v1 v2 : Value} {X Y : List Int} (h : Pu B w w1 v v1 X) (k : Pu B w1 w2 v1 v2 Y) : Pu B w w2 v v2 Y :=
  ⟨k.own, h.chg.trans k.chg h.row, fun j hj => by
    rcases k.row j hj with e | e
    · exact h.row j e
    · exact .inr (Nat.le_trans h.chg.size e)⟩
theorem Pu.of_below {B : Nat} {w w' : World} {v : Value} {X : List Int} (h : OwnB B w v X) (hb : Below w.heap.size w w') : Pu B w w' v v X := ⟨h.keep hb, .of_below hb, fun _ hk => .inl hk⟩
theorem Pu.of_grown {B : Nat} {w w' : World} {v v' : Value} {X : List Int} (h : OwnB B w' v' X) (hg : w.grownBy w' v.ownBlock) (hr : v'.ownBlock = v.ownBlock ∨ v'.ownBlock = some w.heap.size) : Pu B w w' v v' X :=
  ⟨h, .of_grown hg, fun k hk => by
    rcases hr with e | e
    · exact .inl (e ▸ hk)
    · rw [e] at hk; cases hk; exact .inr (Nat.le_refl _)⟩
end Go.Proofs.Ytahekhamhdfkdaa

/- Layer 7: the document's put, Encode. -/
namespace Go.Proofs.Ytahekhamhdfkdaa
open Go.RowKit Go.Sort

/-- What Encode answers. -/
def encZ (t : Tr) : List Int := if errT t = 0 then encT t else []
end Go.Proofs.Ytahekhamhdfkdaa

/- Layer 7: the document's Same, of one tree in two places. -/
namespace Go.Proofs.Ytahekhamhdfkdaa
open Go.RowKit Go.Sort

end Go.Proofs.Ytahekhamhdfkdaa

/- Layer 7: the document's Same, of any two trees. -/
namespace Go.Proofs.Ytahekhamhdfkdaa
open Go.RowKit Go.Sort
end Go.Proofs.Ytahekhamhdfkdaa
