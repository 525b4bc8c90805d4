import Derived.Test.YtahekhamhdfkdaaRjA
import Derived.Test.YtahekhamhdfkdaaRsB
import Derived.Test.YtahekhamhdfkdaaRsD
import Derived.Test.YtahekhamhdfkdaaQTail
/- Layer 7: trees: an item in memory, its measures, its bytes. -/
namespace Go.Proofs.Ytahekhamhdfkdaa
open Go.RowKit Go.Sort

/-- A tree: is it a list; its text; its items (odd ones too). -/
inductive Tr where
  | mk (l : Bool) (X : List Int) (ts : List Tr)
namespace Tr
def l : Tr → Bool | .mk l _ _ => l
def X : Tr → List Int | .mk _ X _ => X
def ts : Tr → List Tr | .mk _ _ ts => ts
end Tr
def zT : Tr := .mk false [] []
/-- By induction: of a tree, if of all of its items. -/
theorem Tr.ind {P : Tr → Prop} (h : ∀ l X ts, (∀ t ∈ ts, P t) → P (.mk l X ts)) : ∀ t, P t :=
  Tr.rec (motive_1 := P) (motive_2 := fun ts => ∀ t ∈ ts, P t) (fun l X ts ih => h l X ts ih) (fun _ ht => by cases ht)
    (fun t ts h1 h2 u hu => by
      rcases List.mem_cons.1 hu with rfl | hu
      · exact h1
      · exact h2 u hu)
mutual
/-- An item's two slices in memory. -/
def It (W : World) : Tr → Value → Value → Prop
  | .mk _ X ts, d, q => (∃ a b o c, d = .slice a X.length c ∧ (X.length ≤ c ∧ (a = none → c = 0)) ∧ Az a b o X ∧ Bz W b o X) ∧ ∃ a b o c, q = .slice a ts.length c ∧ (ts.length ≤ c ∧ (a = none → c = 0)) ∧ (ts = [] ∨ a = some ⟨b, o, none⟩) ∧ Its W b o ts
/-- Items in a row, three cells each. -/
def Its (W : World) (b : Nat) : Nat → List Tr → Prop
  | _, [] => True
  | o, t :: ts => (∃ d q, W.rangeAt b o [.bool t.l, d, q] ∧ It W t d q) ∧ Its W b (o + 3) ts
end
theorem rangeT_keep {W W' : World} {b o : Nat} {cs : List Value} (h : W.rangeAt b o cs) (hb : Below W.heap.size W W') : W'.rangeAt b o cs := fun j v hv => by
  rw [hb.cell (World.block_lt_of_cell? W _ (h j v hv))]; exact h j v hv
theorem Its.at {W : World} {b : Nat} : ∀ {o : Nat} {ts : List Tr} (_ : Its W b o ts) (i : Nat), i < ts.length → ∃ d q, W.rangeAt b (o + i * 3) [.bool (ts.getD i zT).l, d, q] ∧ It W (ts.getD i zT) d q
  | _, [], _, i, hi => absurd hi (Nat.not_lt_zero _)
  | o, t :: ts, h, 0, _ => by
    rw [Its] at h
    obtain ⟨d, q, h1, h2⟩ := h.1
    exact ⟨d, q, by simpa using h1, h2⟩
  | o, t :: ts, h, i + 1, hi => by
    rw [Its] at h
    obtain ⟨d, q, h1, h2⟩ := Its.at h.2 i (by simpa using hi)
    refine ⟨d, q, ?_, by simpa using h2⟩
    rw [show o + (i + 1) * 3 = o + 3 + i * 3 by omega]
    simpa using h1
theorem Its.of {W : World} {b : Nat} : ∀ {o : Nat} {ts : List Tr} (_ : ∀ i, i < ts.length → ∃ d q, W.rangeAt b (o + i * 3) [.bool (ts.getD i zT).l, d, q] ∧ It W (ts.getD i zT) d q), Its W b o ts
  | _, [], _ => by rw [Its]; trivial
  | o, t :: ts, h => by
    rw [Its]
    refine ⟨?_, Its.of fun i hi => ?_⟩
    · obtain ⟨d, q, h1, h2⟩ := h 0 (by simp)
      exact ⟨d, q, by simpa using h1, by simpa using h2⟩
    · obtain ⟨d, q, h1, h2⟩ := h (i + 1) (by simpa using hi)
      refine ⟨d, q, ?_, by simpa using h2⟩
      rw [show o + 3 + i * 3 = o + (i + 1) * 3 by omega]
      simpa using h1
theorem It.keep {W W' : World} (hb : Below W.heap.size W W') : ∀ (t : Tr) {d q : Value}, It W t d q → It W' t d q :=
  Tr.ind fun l X ts ih d q h => by
    rw [It] at h ⊢
    obtain ⟨⟨a, b, o, c, h1, h2, h3, h4⟩, a', b', o', c', k1, k2, k3, k4⟩ := h
    refine ⟨⟨a, b, o, c, h1, h2, h3, h4.keep hb⟩, a', b', o', c', k1, k2, k3, Its.of fun i hi => ?_⟩
    obtain ⟨d, q, e1, e2⟩ := k4.at i hi
    refine ⟨d, q, rangeT_keep e1 hb, ih _ ?_ e2⟩
    rw [List.getD, List.getElem?_eq_getElem hi]; exact List.getElem_mem hi
/-- Is the item itself odd? -/
def odd1 (l : Bool) (X : List Int) (ts : List Tr) : Bool := if l then decide (0 < X.length) else decide (0 < ts.length)
mutual
/-- Is it or one within it odd? -/
def oddT : Tr → Bool
  | .mk l X ts => odd1 l X ts || oddS ts
def oddS : List Tr → Bool
  | [] => false
  | t :: ts => oddT t || oddS ts
end
mutual
def dpT : Tr → Nat
  | .mk l _ ts => if l then dpS ts + 1 else 0
def dpS : List Tr → Nat
  | [] => 0
  | t :: ts => max (dpT t) (dpS ts)
end
/-- The bytes of a text. -/
def encX (X : List Int) : List Int := if bareB X then X else hdR 128 X.length ++ X
mutual
/-- The bytes of an item. -/
def encT : Tr → List Int
  | .mk l X ts => if l then hdR 192 (encS ts).length ++ encS ts else encX X
def encS : List Tr → List Int
  | [] => []
  | t :: ts => encT t ++ encS ts
end
mutual
/-- How many items and bytes there are. -/
def wtT : Tr → Nat
  | .mk _ X ts => 1 + X.length + wtS ts
def wtS : List Tr → Nat
  | [] => 0
  | t :: ts => wtT t + wtS ts
end
theorem wtS_app : ∀ (ts us : List Tr), wtS (ts ++ us) = wtS ts + wtS us
  | [], _ => by simp [wtS]
  | u :: ts, us => by rw [List.cons_append, wtS, wtS, wtS_app ts us]; omega
theorem take_snoc {ts : List Tr} {i : Nat} (h : i < ts.length) : ts.take (i + 1) = ts.take i ++ [ts.getD i zT] := by
  rw [List.take_add_one, List.getD, List.getElem?_eq_getElem h]; rfl
theorem getT_mem {ts : List Tr} {i : Nat} (h : i < ts.length) : ts.getD i zT ∈ ts := by
  rw [List.getD, List.getElem?_eq_getElem h]; exact List.getElem_mem h
theorem wt_item {ts : List Tr} {i : Nat} (h : i < ts.length) : wtS (ts.take i) + wtT (ts.getD i zT) ≤ wtS ts := by
  have e : ts.take (i + 1) ++ ts.drop (i + 1) = ts := List.take_append_drop _ _
  have := wtS_app (ts.take (i + 1)) (ts.drop (i + 1))
  rw [e, take_snoc h, wtS_app, wtS, wtS] at this
  omega
theorem encX_len (X : List Int) : (encX X).length ≤ 4 + X.length := by
  unfold encX
  split
  · omega
  · have := hdR_len 128 X.length
    rw [List.length_append]; omega
mutual
theorem encT_len : ∀ t : Tr, (encT t).length ≤ 4 * wtT t
  | .mk l X ts => by
    rw [encT, wtT]
    have h := encS_len ts
    have k := encX_len X
    split
    · have := hdR_len 192 (encS ts).length
      rw [List.length_append]; omega
    · omega
theorem encS_len : ∀ ts : List Tr, (encS ts).length ≤ 4 * wtS ts
  | [] => by rw [encS, wtS]; exact Nat.le_refl _
  | t :: ts => by
    rw [encS, wtS, List.length_append]
    have := encT_len t
    have := encS_len ts
    omega
end
mutual
theorem dpT_le : ∀ t : Tr, dpT t ≤ wtT t
  | .mk l X ts => by
    rw [dpT, wtT]
    have h := dpS_le ts
    split <;> omega
theorem dpS_le : ∀ ts : List Tr, dpS ts ≤ wtS ts
  | [] => by rw [dpS, wtS]; exact Nat.le_refl _
  | t :: ts => by
    rw [dpS, wtS]
    have := dpT_le t
    have := dpS_le ts
    omega
end
end Go.Proofs.Ytahekhamhdfkdaa

/- Layer 7: measured, of any tree. -/
namespace Go.Proofs.Ytahekhamhdfkdaa
open Go.RowKit Go.Sort

/-- The value of an item. -/
def itV (t : Tr) (d q : Value) : Value := .agg #[.bool t.l, d, q]
theorem len_wt : ∀ ts : List Tr, ts.length ≤ wtS ts
  | [] => Nat.zero_le _
  | .mk l X us :: ts => by
    have := len_wt ts
    rw [wtS, wtT, List.length_cons]; omega
/-- The part of measured for one item: its block holds the item, another the answer. -/
def Bx (W : World) (b : Nat) (l : Bool) (d q : Value) : Prop := W.cell? ⟨b, 0, none⟩ = some (.bool l) ∧ W.cell? ⟨b, 1, none⟩ = some d ∧ W.cell? ⟨b, 2, none⟩ = some q
theorem Bx.keep {W w1 : World} {b : Nat} {l : Bool} {d q : Value} (x : Bx W b l d q) (hb : Below W.heap.size W w1) : Bx w1 b l d q := ⟨keepC hb x.1, keepC hb x.2.1, keepC hb x.2.2⟩
end Go.Proofs.Ytahekhamhdfkdaa

/- Layer 7: measured, of any tree. -/
namespace Go.Proofs.Ytahekhamhdfkdaa
open Go.RowKit Go.Sort

theorem size_it : (Try.prog.info? 26).map (·.size) = some 3 := by kernel_rfl
end Go.Proofs.Ytahekhamhdfkdaa

/- Layer 7: Size, Check of the program. -/
namespace Go.Proofs.Ytahekhamhdfkdaa
open Go.RowKit Go.Sort

end Go.Proofs.Ytahekhamhdfkdaa

/- Layer 7: the document's head of a text; its size. -/
namespace Go.Proofs.Ytahekhamhdfkdaa
open Go.RowKit Go.Sort

end Go.Proofs.Ytahekhamhdfkdaa

/- Layer 7: the document's Check, Size. -/
namespace Go.Proofs.Ytahekhamhdfkdaa
open Go.RowKit Go.Sort

theorem It.slices {W : World} {t : Tr} {d q : Value} (h : It W t d q) : ∃ k1 k2 k3 k4 k5 k6, d = .slice k1 k2 k3 ∧ q = .slice k4 k5 k6 := by
  revert h
  cases t with
  | mk l' X' ts' =>
    intro e2
    rw [It] at e2
    obtain ⟨⟨k1, _, _, k3, h1, _⟩, k4, _, _, k6, h2, _⟩ := e2
    exact ⟨_, _, _, _, _, _, h1, h2⟩
end Go.Proofs.Ytahekhamhdfkdaa

/- Layer 7: the document's put. -/
namespace Go.Proofs.Ytahekhamhdfkdaa
open Go.RowKit Go.Sort

/-- What is kept but for the blocks of S. -/
structure ChgT (S : Nat → Prop) (w w' : World) : Prop where
  os : w'.os = w.os
  tape : w'.tape = w.tape
  output : w'.output = w.output
  size : w.heap.size ≤ w'.heap.size
  block : ∀ k, k < w.heap.size → ¬ S k → w'.heap[k]? = w.heap[k]?
theorem ChgT.refl (S : Nat → Prop) (w : World) : ChgT S w w := ⟨rfl, rfl, rfl, Nat.le_refl _, fun _ _ _ => rfl⟩
theorem ChgT.trans {S T : Nat → Prop} {w w1 w2 : World} (h : ChgT S w w1) (k : ChgT T w1 w2) (hT : ∀ j, T j → S j ∨ w.heap.size ≤ j) : ChgT S w w2 :=
  ⟨k.os.trans h.os, k.tape.trans h.tape, k.output.trans h.output, Nat.le_trans h.size k.size, fun j hj hn => (k.block j (Nat.lt_of_lt_of_le hj h.size) (fun t => by
    rcases hT j t with s | s
    · exact hn s
    · omega)).trans (h.block j hj hn)⟩
theorem ChgT.of_below {S : Nat → Prop} {w w' : World} (h : Below w.heap.size w w') : ChgT S w w' := ⟨h.os, h.tape, h.output, h.size, fun k hk _ => h.block k hk⟩
theorem ChgT.of_grown {row : Option Nat} {w w' : World} (h : w.grownBy w' row) : ChgT (fun k => row = some k) w w' := ⟨h.os, h.tape, h.output, h.size, fun k hk hn => h.block k hk (fun e => hn e.symm)⟩
theorem ChgT.below {S : Nat → Prop} {B : Nat} {w w' : World} (h : ChgT S w w') (hB : B ≤ w.heap.size) (hS : ∀ k, S k → B ≤ k) : Below B w w' := ⟨h.os, h.tape, h.output, h.size, fun k hk => h.block k (by omega) (fun s => by have := hS k s; omega)⟩
theorem ChgT.cell {S : Nat → Prop} {w w' : World} (h : ChgT S w w') {b i : Nat} {v : Value} (hs : ¬ S b) (hc : w.cell? ⟨b, i, none⟩ = some v) : w'.cell? ⟨b, i, none⟩ = some v := by
  rw [World.cell?_of_block (w := w) (a := ⟨b, i, none⟩) (h.block b (World.block_lt_of_cell? w _ hc) hs)]; exact hc
theorem Bx.chg {S : Nat → Prop} {w w' : World} (h : ChgT S w w') {b : Nat} {l : Bool} {d q : Value} (hs : ¬ S b) (x : Bx w b l d q) : Bx w' b l d q := ⟨h.cell hs x.1, h.cell hs x.2.1, h.cell hs x.2.2⟩
end Go.Proofs.Ytahekhamhdfkdaa

/- Layer 7: the document's put, of a list. -/
namespace Go.Proofs.Ytahekhamhdfkdaa
open Go.RowKit Go.Sort

/-- Bytes of one's own, put on: what is kept, whose the row is. -/
structure Pu (B : Nat) (w w' : World) (v v' : Value) (X : List Int) : Prop where
  own : OwnB B w' v' X
  chg : ChgT (fun k => v.ownBlock = some k) w w'
  row : ∀ k, v'.ownBlock = some k → v.ownBlock = some k ∨ w.heap.size ≤ k
theorem Pu.trans {B : Nat} {w w1 w2 : World} {v v1 v2 : Value} {X Y : List Int} (h : Pu B w w1 v v1 X) (k : Pu B w1 w2 v1 v2 Y) : Pu B w w2 v v2 Y :=
  ⟨k.own, h.chg.trans k.chg h.row, fun j hj => by
    rcases k.row j hj with e | e
    · exact h.row j e
    · exact .inr (Nat.le_trans h.chg.size e)⟩
theorem Pu.of_below {B : Nat} {w w' : World} {v : Value} {X : List Int} (h : OwnB B w v X) (hb : Below w.heap.size w w') : Pu B w w' v v X := ⟨h.keep hb, .of_below hb, fun _ hk => .inl hk⟩
theorem Pu.of_grown {B : Nat} {w w' : World} {v v' : Value} {X : List Int} (h : OwnB B w' v' X) (hg : w.grownBy w' v.ownBlock) (hr : v'.ownBlock = v.ownBlock ∨ v'.ownBlock = some w.heap.size) : Pu B w w' v v' X :=
  ⟨h, .of_grown hg, fun k hk => by
    rcases hr with e | e
    · exact .inl (e ▸ hk)
    · rw [e] at hk; cases hk; exact .inr (Nat.le_refl _)⟩
end Go.Proofs.Ytahekhamhdfkdaa

/- Layer 7: the document's put, Encode. -/
namespace Go.Proofs.Ytahekhamhdfkdaa
open Go.RowKit Go.Sort

end Go.Proofs.Ytahekhamhdfkdaa

/- Layer 7: the document's Same, of one tree in two places. -/
namespace Go.Proofs.Ytahekhamhdfkdaa
open Go.RowKit Go.Sort

theorem quiet_load_midT {P : Program} {C : World → Prop} {a : Act} {o : Oper} {K : Act → Prop} (ty : TypeId) (x : Operand) (ho : o.op = .load ty x)
    (b f : Nat) (hx : a.eval x = .pointer (some ⟨b, f, none⟩)) (cs : List Value) (d : TypeDesc) (hS : ∀ w, C w → w.rangeAt b f cs)
    (hu : P.underlying ty = some d) (hd : d.isRow = true) (hi : (P.info? ty).map (·.size) = some cs.length) (h : K (a.put o.dst (.agg cs.toArray))) : o.quiet P a C K :=
  ⟨.agg cs.toArray, fun w hw => by
    unfold Oper.quietAt execOp
    simp only [ho, hx, Instr.loadAt, Instr.sureAddr, Sem.run_bind, Sem.run_pure, Result.andThen_ok, run_loadVar_mid w b f ty cs d (hS w hw) hu hd hi]
    exact ⟨rfl, rfl⟩, h⟩
end Go.Proofs.Ytahekhamhdfkdaa
