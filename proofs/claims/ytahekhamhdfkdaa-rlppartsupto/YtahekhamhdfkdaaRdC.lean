import Derived.Test.YtahekhamhdfkdaaQBar
import Derived.Test.YtahekhamhdfkdaaRyE
import Derived.Test.YtahekhamhdfkdaaRxS
import Derived.Test.YtahekhamhdfkdaaRxA
/- Layer 7: Decode's machine, in plain numbers; its stack in memory. -/
namespace Go.Proofs.Ytahekhamhdfkdaa
open Go.RowKit Go.Sort

abbrev LvT := Nat × List Tr × Value
/-- The ends lie one within the other. -/
def WfD (A : List Int) : Nat → List LvT → Prop
  | p, [] => p ≤ A.length
  | p, x :: r => p ≤ x.1 ∧ WfD A x.1 r
theorem WfD.le {A : List Int} : ∀ {L : List LvT} {p : Nat}, WfD A p L → p ≤ A.length
  | [], _, h => h
  | _ :: _, _, h => Nat.le_trans h.1 (WfD.le h.2)
/-- The levels' cells, the innermost last. -/
def stC : List LvT → List Value
  | [] => []
  | x :: r => stC r ++ [.int .i64 (x.1 : Int), x.2.2]
theorem stC_len : ∀ L : List LvT, (stC L).length = L.length * 2
  | [] => rfl
  | x :: r => by rw [stC, List.length_append, stC_len r]; simp; omega
/-- The levels: what each has lies from its mark on, below the next one's. -/
def Lv7 (W : World) (sb : Option Nat) (B : Nat) : List LvT → Nat → Prop
  | [], M => B ≤ M
  | x :: r, M => ∃ m, m ≤ M ∧ Orow W x.2.1 (fun j => m ≤ j ∧ j < M ∧ sb ≠ some j) x.2.2 ∧ Lv7 W sb B r m
theorem Lv7.base {W : World} {sb : Option Nat} {B : Nat} : ∀ {L : List LvT} {M : Nat}, Lv7 W sb B L M → B ≤ M
  | [], _, h => h
  | _ :: _, _, ⟨_, h1, _, h3⟩ => Nat.le_trans (Lv7.base h3) h1
theorem Lv7.conv {W W' : World} {sb sb' : Option Nat} {B : Nat} : ∀ {L : List LvT} {M : Nat}, (∀ k, k < W.heap.size → B ≤ k → k < M → sb ≠ some k → sb' ≠ some k ∧ W'.heap[k]? = W.heap[k]?) → Lv7 W sb B L M → Lv7 W' sb' B L M
  | [], _, _, h => h
  | x :: r, M, hs, h => by
    rw [Lv7] at h ⊢
    obtain ⟨m, h1, h2, h3⟩ := h
    have hb := h3.base
    refine ⟨m, h1, Orow.conv (fun k hk hS => ?_) h2, Lv7.conv (fun k hk hB hM => hs k hk hB (by omega)) h3⟩
    have := hs k hk (by omega) hS.2.1 hS.2.2
    exact ⟨⟨hS.1, hS.2.1, this.1⟩, this.2⟩
/-- The stack: its row, and what the levels have. -/
def Stk (B : Nat) (W : World) (sv : Value) (L : List LvT) (M : Nat) : Prop := W.ownsRow B 71 2 sv L.length (stC L) ∧ Lv7 W sv.ownBlock B L M ∧ M ≤ W.heap.size
theorem Stk.nil {B : Nat} {W : World} (h : B ≤ W.heap.size) : Stk B W (.slice none 0 0) [] B := ⟨⟨rfl, .inl ⟨rfl, rfl⟩⟩, Nat.le_refl _, h⟩
theorem Stk.conv {B : Nat} {W W' : World} {sv : Value} {L : List LvT} {M : Nat} (h : Stk B W sv L M) (hz : W.heap.size ≤ W'.heap.size) (hs : ∀ k, B ≤ k → k < W.heap.size → W'.heap[k]? = W.heap[k]?) : Stk B W' sv L M :=
  ⟨row_kept h.1 fun k e hk => hs k (World.ownsRow.lt h.1 k e).1 hk, Lv7.conv (fun k hk hB _ hn => ⟨hn, hs k hB hk⟩) h.2.1, Nat.le_trans h.2.2 hz⟩
theorem Stk.keep {B : Nat} {W W' : World} {sv : Value} {L : List LvT} {M : Nat} (h : Stk B W sv L M) (hb : Below W.heap.size W W') : Stk B W' sv L M := h.conv hb.size fun k _ hk => hb.block k hk
/-- One more level. -/
theorem Stk.push {B : Nat} {W W' : World} {sv v' : Value} {L : List LvT} {M e : Nat} (h : Stk B W sv L M)
    (ho : W'.ownsRow B 71 2 v' (L.length + 1) (stC L ++ [.int .i64 (e : Int), .slice none 0 0])) (hg : W.grownBy W' sv.ownBlock) (hv : v'.ownBlock = sv.ownBlock ∨ v'.ownBlock = some W.heap.size) :
    Stk B W' v' ((e, [], .slice none 0 0) :: L) W'.heap.size := by
  refine ⟨by simpa [stC] using ho, ?_, Nat.le_refl _⟩
  rw [Lv7]
  refine ⟨M, Nat.le_trans h.2.2 hg.size, Orow.nil _ _, Lv7.conv (fun k hk _ hM hn => ⟨?_, hg.block k hk fun x => hn x.symm⟩) h.2.1⟩
  rcases hv with x | x
  · rw [x]; exact hn
  · rw [x]; intro y; have := Option.some.inj y; omega
/-- The innermost level: where it lies. -/
theorem Stk.top {B : Nat} {W : World} {sv v : Value} {e : Nat} {ts : List Tr} {L : List LvT} {M : Nat} (h : Stk B W sv ((e, ts, v) :: L) M) :
    ∃ g cap, sv = .slice (some ⟨g, 0, none⟩) (L.length + 1) cap ∧ L.length + 1 ≤ cap ∧ B ≤ g ∧ g < W.heap.size ∧ W.cell? ⟨g, L.length * 2, none⟩ = some (.int .i64 (e : Int)) ∧ W.cell? ⟨g, L.length * 2 + 1, none⟩ = some v ∧ W.frozen? ⟨g, L.length * 2, none⟩ = false ∧ W.frozen? ⟨g, L.length * 2 + 1, none⟩ = false := by
  obtain ⟨h1, _, _⟩ := h
  have hl := stC_len L
  have hrow := h1
  rcases h1.2 with ⟨_, h0⟩ | ⟨g, cap, cur, rfl, hb, hg, hle, r⟩
  · simp at h0
  · have ec : ∀ j, j < (L.length + 1) * 2 → W.cell? ⟨g, j, none⟩ = (stC ((e, ts, v) :: L))[j]? := fun j hj => World.ownsRow.cellAt hrow j hj
    refine ⟨g, cap, rfl, hle, hb, (Array.getElem?_eq_some_iff.1 hg).1, ?_, ?_, World.ownsRow.frozenAt hrow _, World.ownsRow.frozenAt hrow _⟩
    · rw [ec _ (by omega), stC, List.getElem?_append_right (by omega), hl]; simp
    · rw [ec _ (by omega), stC, List.getElem?_append_right (by omega), hl]; simp
/-- One more item in the innermost level. -/
theorem Stk.item {B : Nat} {W W' : World} {sv v v' d q : Value} {e : Nat} {ts : List Tr} {t : Tr} {L : List LvT} {M : Nat} (h : Stk B W sv ((e, ts, v) :: L) M) (ht : Ot W t (fun j => M ≤ j ∧ sv.ownBlock ≠ some j) d q)
    (ho : ∀ ps : List (Value × Value), ps.length = ts.length → W.ownsRow 0 26 3 v ts.length (itC ts ps) → W'.ownsRow 0 26 3 v' (ts.length + 1) (itC ts ps ++ [.bool t.l, d, q]))
    (hr : W'.ownsRow B 71 2 sv (L.length + 1) (stC L ++ [.int .i64 (e : Int), v'])) (hz : W.heap.size ≤ W'.heap.size)
    (hk : ∀ k, k < W.heap.size → sv.ownBlock ≠ some k → v.ownBlock ≠ some k → W'.heap[k]? = W.heap[k]?) (hv : ∀ k, v'.ownBlock = some k → v.ownBlock = some k ∨ W.heap.size ≤ k ∧ sv.ownBlock ≠ some k) : Stk B W' sv ((e, ts ++ [t], v') :: L) W'.heap.size := by
  obtain ⟨h1, h2, h3⟩ := h
  rw [Lv7] at h2
  obtain ⟨m, k1, ⟨ps, p1, p2, p3, p4⟩, k3⟩ := h2
  simp only at p1 p2 p3 p4
  have hb := k3.base
  refine ⟨by simpa [stC] using hr, ?_, Nat.le_refl _⟩
  rw [Lv7]
  have hrow := ho ps p1 p2
  have vlt : ∀ k, v.ownBlock = some k → m ≤ k ∧ k < M ∧ sv.ownBlock ≠ some k := p3
  have v2 : ∀ k, v'.ownBlock = some k → m ≤ k ∧ k < W'.heap.size ∧ sv.ownBlock ≠ some k := fun k x => by
    have l := (World.ownsRow.lt hrow k x).2
    rcases hv k x with y | y
    · have := vlt k y; exact ⟨this.1, l, this.2.2⟩
    · exact ⟨by omega, l, y.2⟩
  refine ⟨m, by omega, ⟨ps ++ [(d, q)], by simp [p1], ?_, v2, ?_⟩, Lv7.conv (fun k hk' hB hM hn => ⟨hn, hk k hk' hn fun x => by have := vlt k x; omega⟩) k3⟩
  · rw [← itC_snoc ts ps t d q p1, List.length_append]; exact hrow
  · refine Ots.of fun i hi => ?_
    rw [List.length_append] at hi
    have l1 : ([t] : List Tr).length = 1 := rfl
    by_cases x : i = ts.length
    · subst x
      have g1 : (ts ++ [t]).getD ts.length zT = t := by simp [List.getD]
      have g2 : (ps ++ [(d, q)]).getD ts.length zV = (d, q) := by rw [← p1]; simp [List.getD]
      rw [g1, g2]
      refine Ot.conv _ (fun k hk' hS => ?_) ht
      have nv : v.ownBlock ≠ some k := fun y => by have := vlt k y; omega
      refine ⟨⟨⟨by omega, by omega, hS.2⟩, fun y => ?_⟩, hk k hk' hS.2 nv⟩
      rcases hv k y with z | z
      · exact nv z
      · omega
    · have hlt : i < ts.length := by omega
      have g1 : (ts ++ [t]).getD i zT = ts.getD i zT := by simp [List.getD, List.getElem?_append_left hlt]
      have g2 : (ps ++ [(d, q)]).getD i zV = ps.getD i zV := by simp [List.getD, List.getElem?_append_left (show i < ps.length by omega)]
      rw [g1, g2]
      refine Ot.conv _ (fun k hk' hS => ?_) (p4.at i hlt)
      refine ⟨⟨⟨hS.1.1, by omega, hS.1.2.2⟩, fun y => ?_⟩, hk k hk' hS.1.2.2 hS.2⟩
      rcases hv k y with z | z
      · exact hS.2 z
      · omega
/-- The code behind a label of a function's scope. -/
def WpLab (P : Program) (f : Func) (l : Nat) (Q : Exit → Act → World → Prop) (a : Act) (w : World) : Prop := ∀ r c X, f.body = some (.seq r (.scope c)) → findLabel c l = some (.seq .skip X) → X.wp P Q a w
theorem WpLab.intro {P : Program} {f : Func} {l : Nat} {Q : Exit → Act → World → Prop} {a : Act} {w : World} {r c X : Code} (h : f.body = some (.seq r (.scope c))) (h2 : findLabel c l = some (.seq .skip X)) (k : X.wp P Q a w) : WpLab P f l Q a w := fun r' c' X' h' h2' => by
  rw [h] at h'
  injection h' with h'
  injection h' with _ h'
  injection h' with h'
  subst h'
  rw [h2] at h2'
  injection h2' with h2'
  injection h2' with _ h2'
  subst h2'
  exact k
theorem WpLab.out {P : Program} {f : Func} {l : Nat} {Q : Exit → Act → World → Prop} {a : Act} {w : World} {r c X : Code} (k : WpLab P f l Q a w) (h : f.body = some (.seq r (.scope c))) (h2 : findLabel c l = some (.seq .skip X)) : X.wp P Q a w := k r c X h h2
theorem WpLab.rest {P : Program} {f : Func} {l : Nat} {Q : Exit → Act → World → Prop} {a : Act} {w : World} {r c X : Code} (k : WpLab P f l Q a w) (h : f.body = some (.seq r (.scope c))) (h2 : findLabel c l = some (.seq .skip X)) : ∃ rest, findLabel c l = some rest ∧ rest.wp P Q a w :=
  ⟨_, h2, wp_seq (wp_skip (k r c X h h2))⟩
end Go.Proofs.Ytahekhamhdfkdaa

/- Layer 7: Decode's machine. -/
namespace Go.Proofs.Ytahekhamhdfkdaa
open Go.RowKit Go.Sort

theorem chg_setCells (b : Nat) : ∀ (vs : List Value) (o : Nat) (W : World), ChgT (fun k => k = b) W (W.setCells b o vs)
  | [], _, W => ChgT.refl _ W
  | v :: r, o, W => by
    rw [World.setCells]
    have h := ChgT.of_grown (grown_set W ⟨b, o, none⟩ v)
    exact ChgT.trans (S := fun k => k = b) ⟨h.os, h.tape, h.output, h.size, fun k hk hn => h.block k hk fun x => hn (Option.some.inj x).symm⟩ (chg_setCells b r (o + 1) _) fun j hj => .inl hj
/-- The result's block, the head's, the item's. -/
structure Dm (w0 W : World) : Prop where
  below : Below w0.heap.size w0 W
  size : w0.heap.size + 3 ≤ W.heap.size
  res : Bx W w0.heap.size false (.slice none 0 0) (.slice none 0 0)
  fr : W.there w0.heap.size 0 3
  hd : W.there (w0.heap.size + 1) 0 3
  it : W.there (w0.heap.size + 2) 0 3
theorem there_chg {S : Nat → Prop} {W W' : World} {b o n : Nat} (h : ChgT S W W') (hs : ¬ S b) (hb : b < W.heap.size) (ht : W.there b o n) : W'.there b o n := fun j hj => by
  have e := h.block b hb hs
  rw [World.cell?_of_block (a := ⟨b, o + j, none⟩) e]
  refine ⟨(ht j hj).1, ?_⟩
  have := (ht j hj).2
  simp only [World.frozen?, e] at this ⊢
  exact this
theorem Dm.chg {w0 W W' : World} (h : Dm w0 W) (hc : ChgT (fun k => w0.heap.size + 3 ≤ k) W W') : Dm w0 W' :=
  have hs := h.size
  ⟨h.below.trans (hc.below (by omega) fun k hk => by omega), Nat.le_trans h.size hc.size, h.res.chg hc (by omega), there_chg hc (by omega) (by omega) h.fr, there_chg hc (by omega) (by omega) h.hd, there_chg hc (by omega) (by omega) h.it⟩
theorem Dm.keep {w0 W W' : World} (h : Dm w0 W) (hb : Below W.heap.size W W') : Dm w0 W' := h.chg (ChgT.of_below hb)
theorem Dm.set {w0 W : World} (h : Dm w0 W) (i : Nat) (vs : List Value) (h0 : 1 ≤ i) (h3 : i < 3) : Dm w0 (W.setCells (w0.heap.size + i) 0 vs) := by
  have c := chg_setCells (w0.heap.size + i) vs 0 W
  have hs := h.size
  exact ⟨h.below.trans (c.below (by omega) fun k hk => by omega), Nat.le_trans h.size c.size, h.res.chg c (by omega), World.there_setCells h.fr _ _ _, World.there_setCells h.hd _ _ _, World.there_setCells h.it _ _ _⟩
theorem Stk.set {w0 W : World} {sv : Value} {L : List LvT} {M : Nat} (h : Stk (w0.heap.size + 3) W sv L M) (i : Nat) (vs : List Value) (h3 : i < 3) : Stk (w0.heap.size + 3) (W.setCells (w0.heap.size + i) 0 vs) sv L M := by
  have c := chg_setCells (w0.heap.size + i) vs 0 W
  exact h.conv c.size fun k hk hk2 => c.block k hk2 (by omega)
def CnS (p : Nat) (L : List LvT) : Prop := ∀ x ∈ L, x.2.1.length + 1 ≤ p
def CnW (p : Nat) (L : List LvT) : Prop := ∀ x ∈ L, x.2.1.length ≤ p
theorem CnW.to {p p' : Nat} {L : List LvT} (h : CnW p L) (hp : p + 1 ≤ p') : CnS p' L := fun x hx => by have := h x hx; omega
end Go.Proofs.Ytahekhamhdfkdaa

/- Layer 7: the document's item: what is refused, a text. -/
namespace Go.Proofs.Ytahekhamhdfkdaa
open Go.RowKit Go.Sort
end Go.Proofs.Ytahekhamhdfkdaa
