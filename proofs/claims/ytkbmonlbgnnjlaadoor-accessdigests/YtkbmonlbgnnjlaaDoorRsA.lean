import Derived.Test.YtkbmonlbgnnjlaaDoorUbA
import Derived.Test.YtkbmonlbgnnjlaaDoorShiftNum
import Derived.Deep.LoopGhost
import Derived.Lib.QuietBelow
import Derived.BigQuiet
import Derived.Deep.RegionHeld
/- Layer 7: isBare, readLength (RlHd on u256's base). -/
namespace Go.Proofs.YtkbmonlbgnnjlaaDoor
open Go.RowKit

def bareB (A : List Int) : Bool := decide (A.length = 1) && decide (A.getD 0 0 < 128)
set_option maxRecDepth 100000 in
theorem bare_any {A : List Int} {ao : Option Addr} {b o c : Nat} (ha : Az ao b o A) (w : World) (h : Bz w b o A) :
    Calls Tryd.prog 50 #[.slice ao A.length c] w fun e w' => e = .returned (.bool (bareB A)) ∧ w' = w := by
  unfold bareB
  by_cases h1 : A.length = 1
  · have ea : ao = some ⟨b, o, none⟩ := by
      rcases ha with rfl | e
      · simp at h1
      · exact e
    subst ea
    have g := h 0 (by omega)
    rw [Nat.add_zero] at g
    have e1 : decide (A.length = 1) = true := decide_eq_true h1
    rw [e1]
    generalize A.getD 0 0 = x at *
    rw [h1]
    clear h1 e1 ha h
    go_enter Tryd.func50, Tryd.ntmps50
    go_wp2
    go_ret
    exact ⟨by simp, rfl⟩
  · have e1 : decide (A.length = 1) = false := decide_eq_false h1
    have h2 : ¬ ((A.length : Int) = 1) := by omega
    rw [e1]
    generalize A.length = n at *
    clear h1 e1 ha h
    go_enter Tryd.func50, Tryd.ntmps50
    go_wp2
    go_ret
    exact ⟨by simp, rfl⟩
end Go.Proofs.YtkbmonlbgnnjlaaDoor

/- Layer 7: readHead (RlRd on u256's base). -/
namespace Go.Proofs.YtkbmonlbgnnjlaaDoor
open Go.RowKit Go.Sort

theorem keepC {W w1 : World} {p : Addr} {v : Value} (hb : Below W.heap.size W w1) (h : W.cell? p = some v) : w1.cell? p = some v := by
  rw [hb.cell (p := p) (World.block_lt_of_cell? W _ h)]; exact h
theorem Bz.alloc {W : World} {b o : Nat} {A : List Int} (h : Bz W b o A) (ob : Obj) : Bz (W.alloc ob) b o A := h.keep ((Below.refl _ _).alloc (Nat.le_refl _) ob)
/-- A head in a block. -/
def Hb (W : World) (b : Nat) (l : Bool) (s h : Int) : Prop := W.cell? ⟨b, 0, none⟩ = some (.bool l) ∧ W.cell? ⟨b, 1, none⟩ = some (.int .i64 s) ∧ W.cell? ⟨b, 2, none⟩ = some (.int .i64 h)
theorem Hb.keep {W w1 : World} {b : Nat} {l : Bool} {s h : Int} (x : Hb W b l s h) (hb : Below W.heap.size W w1) : Hb w1 b l s h := ⟨keepC hb x.1, keepC hb x.2.1, keepC hb x.2.2⟩
def Fr3 (W : World) (b : Nat) : Prop := W.frozen? ⟨b, 0, none⟩ = false ∧ W.frozen? ⟨b, 1, none⟩ = false ∧ W.frozen? ⟨b, 2, none⟩ = false
theorem Fr3.keep {W w1 : World} {b : Nat} (x : Fr3 W b) (hlt : b < W.heap.size) (hb : Below W.heap.size W w1) : Fr3 w1 b := ⟨by rw [hb.frozen (p := ⟨b, 0, none⟩) hlt]; exact x.1, by rw [hb.frozen (p := ⟨b, 1, none⟩) hlt]; exact x.2.1, by rw [hb.frozen (p := ⟨b, 2, none⟩) hlt]; exact x.2.2⟩
end Go.Proofs.YtkbmonlbgnnjlaaDoor

/- Layer 7: readHead of long heads. -/
namespace Go.Proofs.YtkbmonlbgnnjlaaDoor
open Go.RowKit Go.Sort

theorem Hb.new {W : World} {t : TypeId} {l : Bool} {s h : Int} : Hb (W.alloc (.cells #[.bool l, .int .i64 s, .int .i64 h] t)) W.heap.size l s h := ⟨by simp [go_sem], by simp [go_sem], by simp [go_sem]⟩
theorem Fr3.new {W : World} {t : TypeId} {l : Bool} {s h : Int} : Fr3 (W.alloc (.cells #[.bool l, .int .i64 s, .int .i64 h] t)) W.heap.size := ⟨by simp [go_sem], by simp [go_sem], by simp [go_sem]⟩
theorem Hb.size {W : World} {b : Nat} {l : Bool} {s h : Int} (x : Hb W b l s h) (y : Int) : Hb (W.setCell ⟨b, 1, none⟩ (.int .i64 y)) b l y h := ⟨by simp [go_sem, x.1], by simp [go_sem, x.2.1], by simp [go_sem, x.2.2]⟩
theorem Hb.held {W : World} {b : Nat} {l : Bool} {s h : Int} (x : Hb W b l s h) (y : Int) : Hb (W.setCell ⟨b, 2, none⟩ (.int .i64 y)) b l s y := ⟨by simp [go_sem, x.1], by simp [go_sem, x.2.1], by simp [go_sem, x.2.2]⟩
theorem Hb.other {W : World} {b b' i : Nat} {l : Bool} {s h : Int} (x : Hb W b l s h) (ne : b' ≠ b) (v : Value) : Hb (W.setCell ⟨b', i, none⟩ v) b l s h := by
  have hg := heap_setCell_other W ⟨b', i, none⟩ b v (fun e => ne e.symm)
  refine ⟨?_, ?_, ?_⟩
  · rw [← x.1]; simp only [World.cell?, hg]
  · rw [← x.2.1]; simp only [World.cell?, hg]
  · rw [← x.2.2]; simp only [World.cell?, hg]
theorem Fr3.set {W : World} {b : Nat} (x : Fr3 W b) (p : Addr) (v : Value) : Fr3 (W.setCell p v) b := ⟨by rw [World.frozen?_setCell]; exact x.1, by rw [World.frozen?_setCell]; exact x.2.1, by rw [World.frozen?_setCell]; exact x.2.2⟩
theorem Hb.lt {W : World} {b : Nat} {l : Bool} {s h : Int} (x : Hb W b l s h) : b < W.heap.size := World.block_lt_of_cell? W _ x.1
end Go.Proofs.YtkbmonlbgnnjlaaDoor

/- Layer 7: readHead of long heads that it takes. -/
namespace Go.Proofs.YtkbmonlbgnnjlaaDoor
open Go.RowKit Go.Sort

end Go.Proofs.YtkbmonlbgnnjlaaDoor

/- Layer 7: readHead of any bytes. -/
namespace Go.Proofs.YtkbmonlbgnnjlaaDoor
open Go.RowKit Go.Sort

end Go.Proofs.YtkbmonlbgnnjlaaDoor

/- Layer 7: bytes.Clone. -/
namespace Go.Proofs.YtkbmonlbgnnjlaaDoor
open Go.RowKit Go.Sort
theorem sl_none (w : World) (n c : Nat) : (binOp .eql 33 (.slice none n c) (.slice none 0 0)).run Tryd.prog w = .ok (.bool true) w := by kernel_rfl
set_option maxRecDepth 100000 in
theorem bclone_nil (n c : Nat) (w : World) : Calls Tryd.prog 21 #[.slice none n c] w fun e w' => e = .returned (.slice none 0 0) ∧ w' = w := by
  have h := sl_none
  go_enter Tryd.func21, Tryd.ntmps21
  go_wp2
  simp [bodyPost, results, Tryd.results21, go_sem]
end Go.Proofs.YtkbmonlbgnnjlaaDoor

/- Layer 7: Split. -/
namespace Go.Proofs.YtkbmonlbgnnjlaaDoor
open Go.RowKit Go.Sort
end Go.Proofs.YtkbmonlbgnnjlaaDoor

/- Layer 1: Get, Strict of any list; '==' of 32 bytes. -/
namespace Go.Proofs.YtkbmonlbgnnjlaaDoor
open Go.RowKit Go.Sort

def gv (X : List Int) : Int := if X.length ≤ 32 then sufN X X.length else 0
theorem Bts.bz {W : World} {b : Nat} {l : List Int} (h : Bts W b l) : Bz W b 0 l := fun i hi => by rw [Nat.zero_add]; exact h.1 i hi
end Go.Proofs.YtkbmonlbgnnjlaaDoor

/- Layer 7: Split of a head that is taken. -/
namespace Go.Proofs.YtkbmonlbgnnjlaaDoor
open Go.RowKit Go.Sort
theorem wpAnyH_takeD {P : Program} {md : Region.Mode} {ops : Array Oper} {Q : Exit → Act → World → Prop} {S : World → Prop} {i : Nat} {oi : Oper} {v : Value} {fuel : Nat} {listed : Array Bool} {a : Act} {w : World} (d : Nat) (hi : ops[i]? = some oi) (hd : oi.dst = some d)
    (hs : Region.noSelect ops = true) (hf : Region.free md ops listed i = true) (hr : (Region.ready md ops listed).contains i = true)
    (hQ : ∀ c a w, Q (.panic c) (a.put oi.dst v) w → Q (.panic c) a w) (hy : YieldsIf P ops S oi v a) (hS : S w)
    (h : wpAnyH P md ops Q S fuel (listed.setIfInBounds i true) (a.put (some d) v) w) : wpAnyH P md ops Q S (fuel + 1) listed a w :=
  wpAnyH_take hi hs hf hr hQ hy hS (by rw [hd]; exact h)
end Go.Proofs.YtkbmonlbgnnjlaaDoor

/- Layer 7: Split of any bytes. -/
namespace Go.Proofs.YtkbmonlbgnnjlaaDoor
open Go.RowKit Go.Sort
end Go.Proofs.YtkbmonlbgnnjlaaDoor

/- Layer 7: what cut answers, as a function of the bytes. -/
namespace Go.Proofs.YtkbmonlbgnnjlaaDoor
open Go.RowKit Go.Sort
end Go.Proofs.YtkbmonlbgnnjlaaDoor

/- Layer 7: a list of texts of one's own. -/
namespace Go.Proofs.YtkbmonlbgnnjlaaDoor
open Go.RowKit Go.Sort
/-- A list of texts: the row and each text in memory of one's own, apart from the row. -/
def TxE (B : Nat) (W : World) (pv : Value) (XS : List (List Int)) (VS : List Value) : Prop :=
  VS.length = XS.length ∧ W.ownsRow B 33 1 pv XS.length VS ∧ ∀ j, j < XS.length → ∃ u, VS[j]? = some u ∧ OwnB B W u (XS.getD j []) ∧ u ≠ .slice none 0 0 ∧ (∀ k, u.ownBlock = some k → pv.ownBlock ≠ some k)
theorem TxE.nil (B : Nat) (W : World) : TxE B W (.slice none 0 0) [] [] := ⟨rfl, ⟨rfl, .inl ⟨rfl, rfl⟩⟩, fun _ hj => absurd hj (Nat.not_lt_zero _)⟩
theorem TxE.keep {B : Nat} {W W' : World} {pv : Value} {XS : List (List Int)} {VS : List Value} (h : TxE B W pv XS VS) (hb : Below W.heap.size W W') : TxE B W' pv XS VS := by
  refine ⟨h.1, World.ownsRow.kept h.2.1 (grown_of_below hb Option.none) (by cases pv.ownBlock <;> simp), fun j hj => ?_⟩
  obtain ⟨u, h1, h2, h3, h4⟩ := h.2.2 j hj
  exact ⟨u, h1, h2.keep hb, h3, h4⟩
theorem TxE.step {B : Nat} {W W' : World} {pv v' u : Value} {XS : List (List Int)} {X : List Int} {VS : List Value} (h : TxE B W pv XS VS) (hu : OwnB B W u X) (hn : u ≠ .slice none 0 0) (ha : ∀ k, u.ownBlock = some k → pv.ownBlock ≠ some k)
    (ho : W'.ownsRow B 33 1 v' (XS.length + 1) (VS ++ [u])) (hg : W.grownBy W' pv.ownBlock) (hv : v'.ownBlock = pv.ownBlock ∨ v'.ownBlock = some W.heap.size) : TxE B W' v' (XS ++ [X]) (VS ++ [u]) := by
  have hl := h.1
  have far : ∀ {x : Value} {Y : List Int}, OwnB B W x Y → (∀ k, x.ownBlock = some k → pv.ownBlock ≠ some k) → ∀ k, x.ownBlock = some k → v'.ownBlock ≠ some k := fun {x Y} hx hk k e => by
    rcases hv with q | q
    · rw [q]; exact hk k e
    · rw [q]; intro e2; have := (hx.lt k e).2; have := Option.some.inj e2; omega
  refine ⟨by simp [hl], by simpa using ho, fun j hj => ?_⟩
  rw [List.length_append] at hj
  have l1 : ([X] : List (List Int)).length = 1 := rfl
  by_cases e : j = XS.length
  · subst e
    refine ⟨u, by rw [List.getElem?_append_right (by omega), hl, Nat.sub_self]; rfl, ?_, hn, far hu ha⟩
    have g : (XS ++ [X]).getD XS.length [] = X := by simp [List.getD]
    rw [g]
    exact hu.kept hg ha
  · obtain ⟨x, h1, h2, h3, h4⟩ := h.2.2 j (by omega)
    refine ⟨x, by rw [List.getElem?_append_left (by omega)]; exact h1, ?_, h3, far h2 h4⟩
    have g : (XS ++ [X]).getD j [] = XS.getD j [] := by simp [List.getD, List.getElem?_append_left (show j < XS.length by omega)]
    rw [g]
    exact h2.kept hg h4
end Go.Proofs.YtkbmonlbgnnjlaaDoor

/- Layer 7: cut. -/
namespace Go.Proofs.YtkbmonlbgnnjlaaDoor
open Go.RowKit Go.Sort
theorem Hb.grown {W W' : World} {b : Nat} {l : Bool} {s h : Int} {row : Option Nat} (x : Hb W b l s h) (hg : W.grownBy W' row) (hn : row ≠ some b) : Hb W' b l s h := by
  have e : W'.heap[b]? = W.heap[b]? := hg.block b x.lt (fun e => hn e.symm)
  obtain ⟨x0, x1, x2⟩ := x
  refine ⟨?_, ?_, ?_⟩
  · rw [← x0]; simp only [World.cell?, e]
  · rw [← x1]; simp only [World.cell?, e]
  · rw [← x2]; simp only [World.cell?, e]
end Go.Proofs.YtkbmonlbgnnjlaaDoor

/- Layer 7: Parts of any bytes. -/
namespace Go.Proofs.YtkbmonlbgnnjlaaDoor
open Go.RowKit Go.Sort
theorem TxE.base {B B' : Nat} {W : World} {pv : Value} {XS : List (List Int)} {VS : List Value} (h : TxE B W pv XS VS) (hB : B' ≤ B) : TxE B' W pv XS VS := by
  refine ⟨h.1, ?_, fun j hj => ?_⟩
  · refine ⟨h.2.1.1, ?_⟩
    rcases h.2.1.2 with q | ⟨g, cap, cur, e1, e2, e3⟩
    · exact .inl q
    · exact .inr ⟨g, cap, cur, e1, Nat.le_trans hB e2, e3⟩
  · obtain ⟨u, h1, h2, h3⟩ := h.2.2 j hj
    exact ⟨u, h1, h2.base hB, h3⟩
end Go.Proofs.YtkbmonlbgnnjlaaDoor
