import Derived.Test.YtahekhamhdfkdaaQBar
import Derived.Test.YtahekhamhdfkdaaRyE
import Derived.Test.YtahekhamhdfkdaaRxS
/- Layer 7: Decode's machine, in plain numbers; its stack in memory. -/
namespace Go.Proofs.Ytahekhamhdfkdaa
open Go.RowKit Go.Sort

def slD (A : List Int) (p q : Nat) : List Int := (A.drop p).take (q - p)
abbrev LvT := Nat × List Tr × Value
def thenS (x : Int × List Tr) (f : List Tr → Int × Tr) : Int × Tr := if x.1 = 0 then f x.2 else (x.1, zT)
def thenT (x : Int × Tr) (f : Tr → Int × Tr) : Int × Tr := if x.1 = 0 then f x.2 else (x.1, zT)
/-- An item has ended at p: what is answered. -/
def cntD (A : List Int) : List LvT → Nat → Tr → Int × Tr
  | [], p, t => if p < A.length then (73, zT) else (0, t)
  | x :: r, p, t => thenS (dS (r.length + 1) (slD A p x.1)) fun us => cntD A r x.1 (.mk true [] (x.2.1 ++ [t] ++ us))
/-- Within a list that ends at e, with the items ts. -/
def insD (A : List Int) (e : Nat) (ts : List Tr) (r : List LvT) (p : Nat) : Int × Tr := thenS (dS (r.length + 1) (slD A p e)) fun us => cntD A r e (.mk true [] (ts ++ us))
/-- An item begins at p, its room ends at q. -/
def begD (A : List Int) (L : List LvT) (p q : Nat) : Int × Tr := thenT (dT L.length (slD A p q)) fun t => cntD A L (p + totP (slD A p q)) t
theorem cnt_ins (A : List Int) (x : LvT) (r : List LvT) (p : Nat) (t : Tr) : cntD A (x :: r) p t = insD A x.1 (x.2.1 ++ [t]) r p := by rw [cntD, insD]
theorem slD_len {A : List Int} {p q : Nat} (h : q ≤ A.length) : (slD A p q).length = q - p := by
  unfold slD; rw [List.length_take, List.length_drop]; omega
theorem slD_drop {A : List Int} {p q n : Nat} : (slD A p q).drop n = slD A (p + n) q := by
  unfold slD
  rw [List.drop_take, List.drop_drop, show q - p - n = q - (p + n) by omega]
theorem slD_take {A : List Int} {p q n : Nat} (h : p + n ≤ q) : (slD A p q).take n = slD A p (p + n) := by
  unfold slD
  rw [List.take_take, show min n (q - p) = p + n - p by omega]
theorem byts_slD {A : List Int} (h : Byts A) (p q : Nat) : Byts (slD A p q) := byts_takeR (byts_dropR h p) _
theorem ins_end {A : List Int} {e : Nat} {ts : List Tr} {r : List LvT} {p : Nat} (h : e ≤ p) : insD A e ts r p = cntD A r e (.mk true [] ts) := by
  have : dS (r.length + 1) (slD A p e) = (0, []) := dS_nil _ (by unfold slD; rw [List.length_take]; omega)
  rw [insD, this, thenS]
  simp
theorem ins_beg {A : List Int} {e : Nat} {ts : List Tr} {v : Value} {r : List LvT} {p : Nat} (h : p < e) (he : e ≤ A.length) : insD A e ts r p = begD A ((e, ts, v) :: r) p e := by
  have hl := slD_len (p := p) he
  rw [insD, begD, dS_cons _ (by omega), slD_drop]
  unfold consR thenS thenT
  simp only [List.length_cons]
  by_cases k : (dT (r.length + 1) (slD A p e)).1 = 0
  · simp only [if_pos k]
    rw [cntD, thenS]
    by_cases k2 : (dS (r.length + 1) (slD A (p + totP (slD A p e)) e)).1 = 0
    · simp [if_pos k2]
    · simp [if_neg k2]
  · simp [if_neg k]
theorem beg_err {A : List Int} {L : List LvT} {p q : Nat} (e : (hdP (slD A p q)).2.2.2 ≠ 0) : begD A L p q = ((hdP (slD A p q)).2.2.2, zT) := by
  rw [begD, dT_err _ e, thenT, if_neg e]
theorem beg_text {A : List Int} {L : List LvT} {p q : Nat} (e : (hdP (slD A p q)).2.2.2 = 0) (l : (hdP (slD A p q)).1 = false) : begD A L p q = cntD A L (p + totP (slD A p q)) (.mk false (innP (slD A p q)) []) := by
  rw [begD, dT_text _ e l, thenT, if_pos rfl]
theorem beg_deep {A : List Int} {L : List LvT} {p q : Nat} (e : (hdP (slD A p q)).2.2.2 = 0) (l : (hdP (slD A p q)).1 = true) (d : 1024 ≤ L.length) : begD A L p q = (74, zT) := by
  rw [begD, dT_deep e l d, thenT, if_neg (by decide)]
theorem beg_list {A : List Int} {L : List LvT} {p q : Nat} (e : (hdP (slD A p q)).2.2.2 = 0) (l : (hdP (slD A p q)).1 = true) (d : ¬ 1024 ≤ L.length) (hq : q ≤ A.length) (hp : p ≤ q) :
    begD A L p q = insD A (p + totP (slD A p q)) [] L (p + (hdP (slD A p q)).2.1) := by
  have ef : totP (slD A p q) = (hdP (slD A p q)).2.1 + (hdP (slD A p q)).2.2.1 := rfl
  have hf := totP_fits e
  have hl := slD_len (p := p) hq
  have ei : innP (slD A p q) = slD A (p + (hdP (slD A p q)).2.1) (p + totP (slD A p q)) := by
    unfold innP
    rw [slD_drop, show ((hdP (slD A p q)).2.2.1) = p + totP (slD A p q) - (p + (hdP (slD A p q)).2.1) by omega]
    generalize hh : p + (hdP (slD A p q)).2.1 = s
    generalize ht : p + totP (slD A p q) = t
    unfold slD
    rw [List.take_take, show min (t - s) (q - s) = t - s by omega]
  rw [begD, dT_list e l d, insD, ← ei, thenT, listR, thenS]
  by_cases k : (dS (L.length + 1) (innP (slD A p q))).1 = 0
  · simp [if_pos k]
  · simp [if_neg k]
theorem beg_start {A : List Int} (h : A.length ≤ 16777216) : begD A [] 0 A.length = decP A := by
  have e : slD A 0 A.length = A := by unfold slD; rw [List.drop_zero, Nat.sub_zero, List.take_length]
  rw [begD, e, decP, if_neg (by omega), thenT, List.length_nil]
  by_cases k : (dT 0 A).1 = 0
  · rw [if_pos k, if_neg (fun x => x k), cntD, Nat.zero_add]
  · rw [if_neg k, if_pos k]
/-- The ends lie one within the other. -/
def WfD (A : List Int) : Nat → List LvT → Prop
  | p, [] => p ≤ A.length
  | p, x :: r => p ≤ x.1 ∧ WfD A x.1 r
theorem WfD.le {A : List Int} : ∀ {L : List LvT} {p : Nat}, WfD A p L → p ≤ A.length
  | [], _, h => h
  | _ :: _, _, h => Nat.le_trans h.1 (WfD.le h.2)
theorem WfD.less {A : List Int} {L : List LvT} {p q : Nat} (h : WfD A q L) (hp : p ≤ q) : WfD A p L := by
  cases L with
  | nil => exact Nat.le_trans hp h
  | cons x r => exact ⟨Nat.le_trans hp h.1, h.2⟩
/-- The levels' cells, the innermost last. -/
def stC : List LvT → List Value
  | [] => []
  | x :: r => stC r ++ [.int .i64 (x.1 : Int), x.2.2]
theorem stC_len : ∀ L : List LvT, (stC L).length = L.length * 2
  | [] => rfl
  | x :: r => by rw [stC, List.length_append, stC_len r]; simp; omega
/-- The levels: what each has lies from its mark on, below the next one's. -/
def Lv7 (W : World) (sb : Option Nat) (B : Nat) : List LvT → Nat → Prop
  | [], M => B ≤ M
  | x :: r, M => ∃ m, m ≤ M ∧ Orow W x.2.1 (fun j => m ≤ j ∧ j < M ∧ sb ≠ some j) x.2.2 ∧ Lv7 W sb B r m
theorem Lv7.base {W : World} {sb : Option Nat} {B : Nat} : ∀ {L : List LvT} {M : Nat}, Lv7 W sb B L M → B ≤ M
  | [], _, h => h
  | _ :: _, _, ⟨_, h1, _, h3⟩ => Nat.le_trans (Lv7.base h3) h1
theorem Lv7.conv {W W' : World} {sb sb' : Option Nat} {B : Nat} : ∀ {L : List LvT} {M : Nat}, (∀ k, k < W.heap.size → B ≤ k → k < M → sb ≠ some k → sb' ≠ some k ∧ W'.heap[k]? = W.heap[k]?) → Lv7 W sb B L M → Lv7 W' sb' B L M
  | [], _, _, h => h
  | x :: r, M, hs, h => by
    rw [Lv7] at h ⊢
    obtain ⟨m, h1, h2, h3⟩ := h
    have hb := h3.base
    refine ⟨m, h1, Orow.conv (fun k hk hS => ?_) h2, Lv7.conv (fun k hk hB hM => hs k hk hB (by omega)) h3⟩
    have := hs k hk (by omega) hS.2.1 hS.2.2
    exact ⟨⟨hS.1, hS.2.1, this.1⟩, this.2⟩
/-- The stack: its row, and what the levels have. -/
def Stk (B : Nat) (W : World) (sv : Value) (L : List LvT) (M : Nat) : Prop := W.ownsRow B 71 2 sv L.length (stC L) ∧ Lv7 W sv.ownBlock B L M ∧ M ≤ W.heap.size
theorem Stk.nil {B : Nat} {W : World} (h : B ≤ W.heap.size) : Stk B W (.slice none 0 0) [] B := ⟨⟨rfl, .inl ⟨rfl, rfl⟩⟩, Nat.le_refl _, h⟩
theorem Stk.conv {B : Nat} {W W' : World} {sv : Value} {L : List LvT} {M : Nat} (h : Stk B W sv L M) (hz : W.heap.size ≤ W'.heap.size) (hs : ∀ k, B ≤ k → k < W.heap.size → W'.heap[k]? = W.heap[k]?) : Stk B W' sv L M :=
  ⟨row_kept h.1 fun k e hk => hs k (World.ownsRow.lt h.1 k e).1 hk, Lv7.conv (fun k hk hB _ hn => ⟨hn, hs k hB hk⟩) h.2.1, Nat.le_trans h.2.2 hz⟩
theorem Stk.keep {B : Nat} {W W' : World} {sv : Value} {L : List LvT} {M : Nat} (h : Stk B W sv L M) (hb : Below W.heap.size W W') : Stk B W' sv L M := h.conv hb.size fun k _ hk => hb.block k hk
/-- One more level. -/
theorem Stk.push {B : Nat} {W W' : World} {sv v' : Value} {L : List LvT} {M e : Nat} (h : Stk B W sv L M)
    (ho : W'.ownsRow B 71 2 v' (L.length + 1) (stC L ++ [.int .i64 (e : Int), .slice none 0 0])) (hg : W.grownBy W' sv.ownBlock) (hv : v'.ownBlock = sv.ownBlock ∨ v'.ownBlock = some W.heap.size) :
    Stk B W' v' ((e, [], .slice none 0 0) :: L) W'.heap.size := by
  refine ⟨by simpa [stC] using ho, ?_, Nat.le_refl _⟩
  rw [Lv7]
  refine ⟨M, Nat.le_trans h.2.2 hg.size, Orow.nil _ _, Lv7.conv (fun k hk _ hM hn => ⟨?_, hg.block k hk fun x => hn x.symm⟩) h.2.1⟩
  rcases hv with x | x
  · rw [x]; exact hn
  · rw [x]; intro y; have := Option.some.inj y; omega
/-- The innermost level: where it lies. -/
theorem Stk.top {B : Nat} {W : World} {sv v : Value} {e : Nat} {ts : List Tr} {L : List LvT} {M : Nat} (h : Stk B W sv ((e, ts, v) :: L) M) :
    ∃ g cap, sv = .slice (some ⟨g, 0, none⟩) (L.length + 1) cap ∧ L.length + 1 ≤ cap ∧ B ≤ g ∧ g < W.heap.size ∧ W.cell? ⟨g, L.length * 2, none⟩ = some (.int .i64 (e : Int)) ∧ W.cell? ⟨g, L.length * 2 + 1, none⟩ = some v ∧ W.frozen? ⟨g, L.length * 2, none⟩ = false ∧ W.frozen? ⟨g, L.length * 2 + 1, none⟩ = false := by
  obtain ⟨h1, _, _⟩ := h
  have hl := stC_len L
  have hrow := h1
  rcases h1.2 with ⟨_, h0⟩ | ⟨g, cap, cur, rfl, hb, hg, hle, r⟩
  · simp at h0
  · have ec : ∀ j, j < (L.length + 1) * 2 → W.cell? ⟨g, j, none⟩ = (stC ((e, ts, v) :: L))[j]? := fun j hj => World.ownsRow.cellAt hrow j hj
    refine ⟨g, cap, rfl, hle, hb, (Array.getElem?_eq_some_iff.1 hg).1, ?_, ?_, World.ownsRow.frozenAt hrow _, World.ownsRow.frozenAt hrow _⟩
    · rw [ec _ (by omega), stC, List.getElem?_append_right (by omega), hl]; simp
    · rw [ec _ (by omega), stC, List.getElem?_append_right (by omega), hl]; simp
/-- The innermost level taken off. -/
theorem Stk.pop {B : Nat} {W : World} {g n cap : Nat} {v : Value} {e : Nat} {ts : List Tr} {L : List LvT} {M : Nat} (h : Stk B W (.slice (some ⟨g, 0, none⟩) n cap) ((e, ts, v) :: L) M) :
    ∃ m, m ≤ M ∧ Stk B W (.slice (some ⟨g, 0, none⟩) L.length cap) L m ∧ Orow W ts (fun j => m ≤ j ∧ (Value.slice (some ⟨g, 0, none⟩) L.length cap).ownBlock ≠ some j) v := by
  obtain ⟨h1, h2, h3⟩ := h
  rw [Lv7] at h2
  obtain ⟨m, k1, k2, k3⟩ := h2
  refine ⟨m, k1, ⟨⟨stC_len L, ?_⟩, k3, by omega⟩, Orow.conv (fun k _ hS => ⟨⟨hS.1, hS.2.2⟩, rfl⟩) k2⟩
  rcases h1.2 with ⟨h0, _⟩ | ⟨g', cap', cur, e1, hb, hg, hle, hmx, hcs, htk⟩
  · cases h0
  · injection e1 with e1 e2 e3
    injection e1 with e1
    injection e1 with e1
    subst e1 e3
    refine .inr ⟨g, cap, cur, rfl, hb, hg, by simp at hle; omega, hmx, hcs, ?_⟩
    have hl := stC_len L
    have := congrArg (List.take (L.length * 2)) htk
    rw [List.take_take, stC, show min (L.length * 2) (((e, ts, v) :: L).length * 2) = L.length * 2 by rw [List.length_cons]; omega, List.take_append_of_le_length (by omega)] at this
    rw [this, List.take_of_length_le (by omega)]
/-- One more item in the innermost level. -/
theorem Stk.item {B : Nat} {W W' : World} {sv v v' d q : Value} {e : Nat} {ts : List Tr} {t : Tr} {L : List LvT} {M : Nat} (h : Stk B W sv ((e, ts, v) :: L) M) (ht : Ot W t (fun j => M ≤ j ∧ sv.ownBlock ≠ some j) d q)
    (ho : ∀ ps : List (Value × Value), ps.length = ts.length → W.ownsRow 0 26 3 v ts.length (itC ts ps) → W'.ownsRow 0 26 3 v' (ts.length + 1) (itC ts ps ++ [.bool t.l, d, q]))
    (hr : W'.ownsRow B 71 2 sv (L.length + 1) (stC L ++ [.int .i64 (e : Int), v'])) (hz : W.heap.size ≤ W'.heap.size)
    (hk : ∀ k, k < W.heap.size → sv.ownBlock ≠ some k → v.ownBlock ≠ some k → W'.heap[k]? = W.heap[k]?) (hv : ∀ k, v'.ownBlock = some k → v.ownBlock = some k ∨ W.heap.size ≤ k ∧ sv.ownBlock ≠ some k) : Stk B W' sv ((e, ts ++ [t], v') :: L) W'.heap.size := by
  obtain ⟨h1, h2, h3⟩ := h
  rw [Lv7] at h2
  obtain ⟨m, k1, ⟨ps, p1, p2, p3, p4⟩, k3⟩ := h2
  simp only at p1 p2 p3 p4
  have hb := k3.base
  refine ⟨by simpa [stC] using hr, ?_, Nat.le_refl _⟩
  rw [Lv7]
  have hrow := ho ps p1 p2
  have vlt : ∀ k, v.ownBlock = some k → m ≤ k ∧ k < M ∧ sv.ownBlock ≠ some k := p3
  have v2 : ∀ k, v'.ownBlock = some k → m ≤ k ∧ k < W'.heap.size ∧ sv.ownBlock ≠ some k := fun k x => by
    have l := (World.ownsRow.lt hrow k x).2
    rcases hv k x with y | y
    · have := vlt k y; exact ⟨this.1, l, this.2.2⟩
    · exact ⟨by omega, l, y.2⟩
  refine ⟨m, by omega, ⟨ps ++ [(d, q)], by simp [p1], ?_, v2, ?_⟩, Lv7.conv (fun k hk' hB hM hn => ⟨hn, hk k hk' hn fun x => by have := vlt k x; omega⟩) k3⟩
  · rw [← itC_snoc ts ps t d q p1, List.length_append]; exact hrow
  · refine Ots.of fun i hi => ?_
    rw [List.length_append] at hi
    have l1 : ([t] : List Tr).length = 1 := rfl
    by_cases x : i = ts.length
    · subst x
      have g1 : (ts ++ [t]).getD ts.length zT = t := by simp [List.getD]
      have g2 : (ps ++ [(d, q)]).getD ts.length zV = (d, q) := by rw [← p1]; simp [List.getD]
      rw [g1, g2]
      refine Ot.conv _ (fun k hk' hS => ?_) ht
      have nv : v.ownBlock ≠ some k := fun y => by have := vlt k y; omega
      refine ⟨⟨⟨by omega, by omega, hS.2⟩, fun y => ?_⟩, hk k hk' hS.2 nv⟩
      rcases hv k y with z | z
      · exact nv z
      · omega
    · have hlt : i < ts.length := by omega
      have g1 : (ts ++ [t]).getD i zT = ts.getD i zT := by simp [List.getD, List.getElem?_append_left hlt]
      have g2 : (ps ++ [(d, q)]).getD i zV = ps.getD i zV := by simp [List.getD, List.getElem?_append_left (show i < ps.length by omega)]
      rw [g1, g2]
      refine Ot.conv _ (fun k hk' hS => ?_) (p4.at i hlt)
      refine ⟨⟨⟨hS.1.1, by omega, hS.1.2.2⟩, fun y => ?_⟩, hk k hk' hS.1.2.2 hS.2⟩
      rcases hv k y with z | z
      · exact hS.2 z
      · omega
/-- The code behind a label of a function's scope. -/
def WpLab (P : Program) (f : Func) (l : Nat) (Q : Exit → Act → World → Prop) (a : Act) (w : World) : Prop := ∀ r c X, f.body = some (.seq r (.scope c)) → findLabel c l = some (.seq .skip X) → X.wp P Q a w
theorem WpLab.intro {P : Program} {f : Func} {l : Nat} {Q : Exit → Act → World → Prop} {a : Act} {w : World} {r c X : Code} (h : f.body = some (.seq r (.scope c))) (h2 : findLabel c l = some (.seq .skip X)) (k : X.wp P Q a w) : WpLab P f l Q a w := fun r' c' X' h' h2' => by
  rw [h] at h'
  injection h' with h'
  injection h' with _ h'
  injection h' with h'
  subst h'
  rw [h2] at h2'
  injection h2' with h2'
  injection h2' with _ h2'
  subst h2'
  exact k
theorem WpLab.out {P : Program} {f : Func} {l : Nat} {Q : Exit → Act → World → Prop} {a : Act} {w : World} {r c X : Code} (k : WpLab P f l Q a w) (h : f.body = some (.seq r (.scope c))) (h2 : findLabel c l = some (.seq .skip X)) : X.wp P Q a w := k r c X h h2
theorem WpLab.rest {P : Program} {f : Func} {l : Nat} {Q : Exit → Act → World → Prop} {a : Act} {w : World} {r c X : Code} (k : WpLab P f l Q a w) (h : f.body = some (.seq r (.scope c))) (h2 : findLabel c l = some (.seq .skip X)) : ∃ rest, findLabel c l = some rest ∧ rest.wp P Q a w :=
  ⟨_, h2, wp_seq (wp_skip (k r c X h h2))⟩
end Go.Proofs.Ytahekhamhdfkdaa
