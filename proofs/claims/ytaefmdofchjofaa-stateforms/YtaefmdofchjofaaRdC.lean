import Derived.Test.YtaefmdofchjofaaQBar
import Derived.Test.YtaefmdofchjofaaRyE
import Derived.Test.YtaefmdofchjofaaRxR
import Derived.Test.YtaefmdofchjofaaRjA
/- Layer 7: Decode's machine, in plain numbers; its stack in memory. -/
namespace Go.Proofs.Ytaefmdofchjofaa
open Go.RowKit Go.Sort

def slD (A : List Int) (p q : Nat) : List Int := (A.drop p).take (q - p)
abbrev LvT := Nat × List Tr × Value
def thenS (x : Int × List Tr) (f : List Tr → Int × Tr) : Int × Tr := if x.1 = 0 then f x.2 else (x.1, zT)
def thenT (x : Int × Tr) (f : Tr → Int × Tr) : Int × Tr := if x.1 = 0 then f x.2 else (x.1, zT)
/-- An item has ended at p: what is answered. -/
def cntD (A : List Int) : List LvT → Nat → Tr → Int × Tr
  | [], p, t => if p < A.length then (73, zT) else (0, t)
  | x :: r, p, t => thenS (dS (r.length + 1) (slD A p x.1)) fun us => cntD A r x.1 (.mk true [] (x.2.1 ++ [t] ++ us))
/-- Within a list that ends at e, with the items ts. -/
def insD (A : List Int) (e : Nat) (ts : List Tr) (r : List LvT) (p : Nat) : Int × Tr := thenS (dS (r.length + 1) (slD A p e)) fun us => cntD A r e (.mk true [] (ts ++ us))
/-- An item begins at p, its room ends at q. -/
def begD (A : List Int) (L : List LvT) (p q : Nat) : Int × Tr := thenT (dT L.length (slD A p q)) fun t => cntD A L (p + totP (slD A p q)) t
theorem cnt_ins (A : List Int) (x : LvT) (r : List LvT) (p : Nat) (t : Tr) : cntD A (x :: r) p t = insD A x.1 (x.2.1 ++ [t]) r p := by rw [cntD, insD]
theorem slD_len {A : List Int} {p q : Nat} (h : q ≤ A.length) : (slD A p q).length = q - p := by
  unfold slD; rw [List.length_take, List.length_drop]; omega
theorem slD_drop {A : List Int} {p q n : Nat} : (slD A p q).drop n = slD A (p + n) q := by
  unfold slD
  rw [List.drop_take, List.drop_drop, show q - p - n = q - (p + n) by omega]
theorem slD_take {A : List Int} {p q n : Nat} (h : p + n ≤ q) : (slD A p q).take n = slD A p (p + n) := by
  unfold slD
  rw [List.take_take, show min n (q - p) = p + n - p by omega]
theorem byts_slD {A : List Int} (h : Byts A) (p q : Nat) : Byts (slD A p q) := byts_takeR (byts_dropR h p) _
theorem ins_end {A : List Int} {e : Nat} {ts : List Tr} {r : List LvT} {p : Nat} (h : e ≤ p) : insD A e ts r p = cntD A r e (.mk true [] ts) := by
  have : dS (r.length + 1) (slD A p e) = (0, []) := dS_nil _ (by unfold slD; rw [List.length_take]; omega)
  rw [insD, this, thenS]
  simp
theorem ins_beg {A : List Int} {e : Nat} {ts : List Tr} {v : Value} {r : List LvT} {p : Nat} (h : p < e) (he : e ≤ A.length) : insD A e ts r p = begD A ((e, ts, v) :: r) p e := by
  have hl := slD_len (p := p) he
  rw [insD, begD, dS_cons _ (by omega), slD_drop]
  unfold consR thenS thenT
  simp only [List.length_cons]
  by_cases k : (dT (r.length + 1) (slD A p e)).1 = 0
  · simp only [if_pos k]
    rw [cntD, thenS]
    by_cases k2 : (dS (r.length + 1) (slD A (p + totP (slD A p e)) e)).1 = 0
    · simp [if_pos k2]
    · simp [if_neg k2]
  · simp [if_neg k]
theorem beg_err {A : List Int} {L : List LvT} {p q : Nat} (e : (hdP (slD A p q)).2.2.2 ≠ 0) : begD A L p q = ((hdP (slD A p q)).2.2.2, zT) := by
  rw [begD, dT_err _ e, thenT, if_neg e]
theorem beg_text {A : List Int} {L : List LvT} {p q : Nat} (e : (hdP (slD A p q)).2.2.2 = 0) (l : (hdP (slD A p q)).1 = false) : begD A L p q = cntD A L (p + totP (slD A p q)) (.mk false (innP (slD A p q)) []) := by
  rw [begD, dT_text _ e l, thenT, if_pos rfl]
theorem beg_deep {A : List Int} {L : List LvT} {p q : Nat} (e : (hdP (slD A p q)).2.2.2 = 0) (l : (hdP (slD A p q)).1 = true) (d : 1024 ≤ L.length) : begD A L p q = (74, zT) := by
  rw [begD, dT_deep e l d, thenT, if_neg (by decide)]
theorem beg_list {A : List Int} {L : List LvT} {p q : Nat} (e : (hdP (slD A p q)).2.2.2 = 0) (l : (hdP (slD A p q)).1 = true) (d : ¬ 1024 ≤ L.length) (hq : q ≤ A.length) (hp : p ≤ q) :
    begD A L p q = insD A (p + totP (slD A p q)) [] L (p + (hdP (slD A p q)).2.1) := by
  have ef : totP (slD A p q) = (hdP (slD A p q)).2.1 + (hdP (slD A p q)).2.2.1 := rfl
  have hf := totP_fits e
  have hl := slD_len (p := p) hq
  have ei : innP (slD A p q) = slD A (p + (hdP (slD A p q)).2.1) (p + totP (slD A p q)) := by
    unfold innP
    rw [slD_drop, show ((hdP (slD A p q)).2.2.1) = p + totP (slD A p q) - (p + (hdP (slD A p q)).2.1) by omega]
    generalize hh : p + (hdP (slD A p q)).2.1 = s
    generalize ht : p + totP (slD A p q) = t
    unfold slD
    rw [List.take_take, show min (t - s) (q - s) = t - s by omega]
  rw [begD, dT_list e l d, insD, ← ei, thenT, listR, thenS]
  by_cases k : (dS (L.length + 1) (innP (slD A p q))).1 = 0
  · simp [if_pos k]
  · simp [if_neg k]
theorem beg_start {A : List Int} (h : A.length ≤ 16777216) : begD A [] 0 A.length = decP A := by
  have e : slD A 0 A.length = A := by unfold slD; rw [List.drop_zero, Nat.sub_zero, List.take_length]
  rw [begD, e, decP, if_neg (by omega), thenT, List.length_nil]
  by_cases k : (dT 0 A).1 = 0
  · rw [if_pos k, if_neg (fun x => x k), cntD, Nat.zero_add]
  · rw [if_neg k, if_pos k]
/-- The ends lie one within the other. -/
def WfD (A : List Int) : Nat → List LvT → Prop
  | p, [] => p ≤ A.length
  | p, x :: r => p ≤ x.1 ∧ WfD A x.1 r
theorem WfD.le {A : List Int} : ∀ {L : List LvT} {p : Nat}, WfD A p L → p ≤ A.length
  | [], _, h => h
  | _ :: _, _, h => Nat.le_trans h.1 (WfD.le h.2)
theorem WfD.less {A : List Int} {L : List LvT} {p q : Nat} (h : WfD A q L) (hp : p ≤ q) : WfD A p L := by
  cases L with
  | nil => exact Nat.le_trans hp h
  | cons x r => exact ⟨Nat.le_trans hp h.1, h.2⟩
/-- The levels' cells, the innermost last. -/
def stC : List LvT → List Value
  | [] => []
  | x :: r => stC r ++ [.int .i64 (x.1 : Int), x.2.2]
theorem stC_len : ∀ L : List LvT, (stC L).length = L.length * 2
  | [] => rfl
  | x :: r => by rw [stC, List.length_append, stC_len r]; simp; omega
/-- The levels: what each has lies from its mark on, below the next one's. -/
def Lv7 (W : World) (sb : Option Nat) (B : Nat) : List LvT → Nat → Prop
  | [], M => B ≤ M
  | x :: r, M => ∃ m, m ≤ M ∧ Orow W x.2.1 (fun j => m ≤ j ∧ j < M ∧ sb ≠ some j) x.2.2 ∧ Lv7 W sb B r m
theorem Lv7.base {W : World} {sb : Option Nat} {B : Nat} : ∀ {L : List LvT} {M : Nat}, Lv7 W sb B L M → B ≤ M
  | [], _, h => h
  | _ :: _, _, ⟨_, h1, _, h3⟩ => Nat.le_trans (Lv7.base h3) h1
theorem Lv7.conv {W W' : World} {sb sb' : Option Nat} {B : Nat} : ∀ {L : List LvT} {M : Nat}, (∀ k, k < W.heap.size → B ≤ k → k < M → sb ≠ some k → sb' ≠ some k ∧ W'.heap[k]? = W.heap[k]?) → Lv7 W sb B L M → Lv7 W' sb' B L M
  | [], _, _, h => h
  | x :: r, M, hs, h => by
    rw [Lv7] at h ⊢
    obtain ⟨m, h1, h2, h3⟩ := h
    have hb := h3.base
    refine ⟨m, h1, Orow.conv (fun k hk hS => ?_) h2, Lv7.conv (fun k hk hB hM => hs k hk hB (by omega)) h3⟩
    have := hs k hk (by omega) hS.2.1 hS.2.2
    exact ⟨⟨hS.1, hS.2.1, this.1⟩, this.2⟩
/-- The stack: its row, and what the levels have. -/
def Stk (B : Nat) (W : World) (sv : Value) (L : List LvT) (M : Nat) : Prop := W.ownsRow B 84 2 sv L.length (stC L) ∧ Lv7 W sv.ownBlock B L M ∧ M ≤ W.heap.size
theorem Stk.nil {B : Nat} {W : World} (h : B ≤ W.heap.size) : Stk B W (.slice none 0 0) [] B := ⟨⟨rfl, .inl ⟨rfl, rfl⟩⟩, Nat.le_refl _, h⟩
theorem Stk.conv {B : Nat} {W W' : World} {sv : Value} {L : List LvT} {M : Nat} (h : Stk B W sv L M) (hz : W.heap.size ≤ W'.heap.size) (hs : ∀ k, B ≤ k → k < W.heap.size → W'.heap[k]? = W.heap[k]?) : Stk B W' sv L M :=
  ⟨row_kept h.1 fun k e hk => hs k (World.ownsRow.lt h.1 k e).1 hk, Lv7.conv (fun k hk hB _ hn => ⟨hn, hs k hB hk⟩) h.2.1, Nat.le_trans h.2.2 hz⟩
theorem Stk.keep {B : Nat} {W W' : World} {sv : Value} {L : List LvT} {M : Nat} (h : Stk B W sv L M) (hb : Below W.heap.size W W') : Stk B W' sv L M := h.conv hb.size fun k _ hk => hb.block k hk
/-- One more level. -/
theorem Stk.push {B : Nat} {W W' : World} {sv v' : Value} {L : List LvT} {M e : Nat} (h : Stk B W sv L M)
    (ho : W'.ownsRow B 84 2 v' (L.length + 1) (stC L ++ [.int .i64 (e : Int), .slice none 0 0])) (hg : W.grownBy W' sv.ownBlock) (hv : v'.ownBlock = sv.ownBlock ∨ v'.ownBlock = some W.heap.size) :
    Stk B W' v' ((e, [], .slice none 0 0) :: L) W'.heap.size := by
  refine ⟨by simpa [stC] using ho, ?_, Nat.le_refl _⟩
  rw [Lv7]
  refine ⟨M, Nat.le_trans h.2.2 hg.size, Orow.nil _ _, Lv7.conv (fun k hk _ hM hn => ⟨?_, hg.block k hk fun x => hn x.symm⟩) h.2.1⟩
  rcases hv with x | x
  · rw [x]; exact hn
  · rw [x]; intro y; have := Option.some.inj y; omega
/-- The innermost level: where it lies. -/
theorem Stk.top {B : Nat} {W : World} {sv v : Value} {e : Nat} {ts : List Tr} {L : List LvT} {M : Nat} (h : Stk B W sv ((e, ts, v) :: L) M) :
    ∃ g cap, sv = .slice (some ⟨g, 0, none⟩) (L.length + 1) cap ∧ L.length + 1 ≤ cap ∧ B ≤ g ∧ g < W.heap.size ∧ W.cell? ⟨g, L.length * 2, none⟩ = some (.int .i64 (e : Int)) ∧ W.cell? ⟨g, L.length * 2 + 1, none⟩ = some v ∧ W.frozen? ⟨g, L.length * 2, none⟩ = false ∧ W.frozen? ⟨g, L.length * 2 + 1, none⟩ = false := by
  obtain ⟨h1, _, _⟩ := h
  have hl := stC_len L
  have hrow := h1
  rcases h1.2 with ⟨_, h0⟩ | ⟨g, cap, cur, rfl, hb, hg, hle, r⟩
  · simp at h0
  · have ec : ∀ j, j < (L.length + 1) * 2 → W.cell? ⟨g, j, none⟩ = (stC ((e, ts, v) :: L))[j]? := fun j hj => World.ownsRow.cellAt hrow j hj
    refine ⟨g, cap, rfl, hle, hb, (Array.getElem?_eq_some_iff.1 hg).1, ?_, ?_, World.ownsRow.frozenAt hrow _, World.ownsRow.frozenAt hrow _⟩
    · rw [ec _ (by omega), stC, List.getElem?_append_right (by omega), hl]; simp
    · rw [ec _ (by omega), stC, List.getElem?_append_right (by omega), hl]; simp
/-- The innermost level taken off. -/
theorem Stk.pop {B : Nat} {W : World} {g n cap : Nat} {v : Value} {e : Nat} {ts : List Tr} {L : List LvT} {M : Nat} (h : Stk B W (.slice (some ⟨g, 0, none⟩) n cap) ((e, ts, v) :: L) M) :
    ∃ m, m ≤ M ∧ Stk B W (.slice (some ⟨g, 0, none⟩) L.length cap) L m ∧ Orow W ts (fun j => m ≤ j ∧ (Value.slice (some ⟨g, 0, none⟩) L.length cap).ownBlock ≠ some j) v := by
  obtain ⟨h1, h2, h3⟩ := h
  rw [Lv7] at h2
  obtain ⟨m, k1, k2, k3⟩ := h2
  refine ⟨m, k1, ⟨⟨stC_len L, ?_⟩, k3, by omega⟩, Orow.conv (fun k _ hS => ⟨⟨hS.1, hS.2.2⟩, rfl⟩) k2⟩
  rcases h1.2 with ⟨h0, _⟩ | ⟨g', cap', cur, e1, hb, hg, hle, hmx, hcs, htk⟩
  · cases h0
  · injection e1 with e1 e2 e3
    injection e1 with e1
    injection e1 with e1
    subst e1 e3
    refine .inr ⟨g, cap, cur, rfl, hb, hg, by simp at hle; omega, hmx, hcs, ?_⟩
    have hl := stC_len L
    have := congrArg (List.take (L.length * 2)) htk
    rw [List.take_take, stC, show min (L.length * 2) (((e, ts, v) :: L).length * 2) = L.length * 2 by rw [List.length_cons]; omega, List.take_append_of_le_length (by omega)] at this
    rw [this, List.take_of_length_le (by omega)]
/-- One more item in the innermost level. -/
theorem Stk.item {B : Nat} {W W' : World} {sv v v' d q : Value} {e : Nat} {ts : List Tr} {t : Tr} {L : List LvT} {M : Nat} (h : Stk B W sv ((e, ts, v) :: L) M) (ht : Ot W t (fun j => M ≤ j ∧ sv.ownBlock ≠ some j) d q)
    (ho : ∀ ps : List (Value × Value), ps.length = ts.length → W.ownsRow 0 48 3 v ts.length (itC ts ps) → W'.ownsRow 0 48 3 v' (ts.length + 1) (itC ts ps ++ [.bool t.l, d, q]))
    (hr : W'.ownsRow B 84 2 sv (L.length + 1) (stC L ++ [.int .i64 (e : Int), v'])) (hz : W.heap.size ≤ W'.heap.size)
    (hk : ∀ k, k < W.heap.size → sv.ownBlock ≠ some k → v.ownBlock ≠ some k → W'.heap[k]? = W.heap[k]?) (hv : ∀ k, v'.ownBlock = some k → v.ownBlock = some k ∨ W.heap.size ≤ k ∧ sv.ownBlock ≠ some k) : Stk B W' sv ((e, ts ++ [t], v') :: L) W'.heap.size := by
  obtain ⟨h1, h2, h3⟩ := h
  rw [Lv7] at h2
  obtain ⟨m, k1, ⟨ps, p1, p2, p3, p4⟩, k3⟩ := h2
  simp only at p1 p2 p3 p4
  have hb := k3.base
  refine ⟨by simpa [stC] using hr, ?_, Nat.le_refl _⟩
  rw [Lv7]
  have hrow := ho ps p1 p2
  have vlt : ∀ k, v.ownBlock = some k → m ≤ k ∧ k < M ∧ sv.ownBlock ≠ some k := p3
  have v2 : ∀ k, v'.ownBlock = some k → m ≤ k ∧ k < W'.heap.size ∧ sv.ownBlock ≠ some k := fun k x => by
    have l := (World.ownsRow.lt hrow k x).2
    rcases hv k x with y | y
    · have := vlt k y; exact ⟨this.1, l, this.2.2⟩
    · exact ⟨by omega, l, y.2⟩
  refine ⟨m, by omega, ⟨ps ++ [(d, q)], by simp [p1], ?_, v2, ?_⟩, Lv7.conv (fun k hk' hB hM hn => ⟨hn, hk k hk' hn fun x => by have := vlt k x; omega⟩) k3⟩
  · rw [← itC_snoc ts ps t d q p1, List.length_append]; exact hrow
  · refine Ots.of fun i hi => ?_
    rw [List.length_append] at hi
    have l1 : ([t] : List Tr).length = 1 := rfl
    by_cases x : i = ts.length
    · subst x
      have g1 : (ts ++ [t]).getD ts.length zT = t := by simp [List.getD]
      have g2 : (ps ++ [(d, q)]).getD ts.length zV = (d, q) := by rw [← p1]; simp [List.getD]
      rw [g1, g2]
      refine Ot.conv _ (fun k hk' hS => ?_) ht
      have nv : v.ownBlock ≠ some k := fun y => by have := vlt k y; omega
      refine ⟨⟨⟨by omega, by omega, hS.2⟩, fun y => ?_⟩, hk k hk' hS.2 nv⟩
      rcases hv k y with z | z
      · exact nv z
      · omega
    · have hlt : i < ts.length := by omega
      have g1 : (ts ++ [t]).getD i zT = ts.getD i zT := by simp [List.getD, List.getElem?_append_left hlt]
      have g2 : (ps ++ [(d, q)]).getD i zV = ps.getD i zV := by simp [List.getD, List.getElem?_append_left (show i < ps.length by omega)]
      rw [g1, g2]
      refine Ot.conv _ (fun k hk' hS => ?_) (p4.at i hlt)
      refine ⟨⟨⟨hS.1.1, by omega, hS.1.2.2⟩, fun y => ?_⟩, hk k hk' hS.1.2.2 hS.2⟩
      rcases hv k y with z | z
      · exact hS.2 z
      · omega
/-- The code behind a label of a function's scope. -/
def WpLab (P : Program) (f : Func) (l : Nat) (Q : Exit → Act → World → Prop) (a : Act) (w : World) : Prop := ∀ r c X, f.body = some (.seq r (.scope c)) → findLabel c l = some (.seq .skip X) → X.wp P Q a w
theorem WpLab.intro {P : Program} {f : Func} {l : Nat} {Q : Exit → Act → World → Prop} {a : Act} {w : World} {r c X : Code} (h : f.body = some (.seq r (.scope c))) (h2 : findLabel c l = some (.seq .skip X)) (k : X.wp P Q a w) : WpLab P f l Q a w := fun r' c' X' h' h2' => by
  rw [h] at h'
  injection h' with h'
  injection h' with _ h'
  injection h' with h'
  subst h'
  rw [h2] at h2'
  injection h2' with h2'
  injection h2' with _ h2'
  subst h2'
  exact k
theorem WpLab.out {P : Program} {f : Func} {l : Nat} {Q : Exit → Act → World → Prop} {a : Act} {w : World} {r c X : Code} (k : WpLab P f l Q a w) (h : f.body = some (.seq r (.scope c))) (h2 : findLabel c l = some (.seq .skip X)) : X.wp P Q a w := k r c X h h2
theorem WpLab.rest {P : Program} {f : Func} {l : Nat} {Q : Exit → Act → World → Prop} {a : Act} {w : World} {r c X : Code} (k : WpLab P f l Q a w) (h : f.body = some (.seq r (.scope c))) (h2 : findLabel c l = some (.seq .skip X)) : ∃ rest, findLabel c l = some rest ∧ rest.wp P Q a w :=
  ⟨_, h2, wp_seq (wp_skip (k r c X h h2))⟩
end Go.Proofs.Ytaefmdofchjofaa

/- Layer 7: Decode's machine. -/
namespace Go.Proofs.Ytaefmdofchjofaa
open Go.RowKit Go.Sort

theorem size_hd7 : (Try.prog.info? 80).map (·.size) = some 3 := by kernel_rfl
/-- A slice of a slice, as an arm. -/
theorem wpList_slice_run {ops : Array Oper} {rest : List Oper} {op : Oper} {a : Act} {Q : Exit → Act → World → Prop} {w : World} (hgd : op.guard = none) {ty : TypeId} (x y z : Operand) (ho : op.op = .slice ty x (some y) (some z) none) {vx vy vz r : Value} (hx : a.eval x = vx) (hy : a.eval y = vy) (hz : a.eval z = vz)
    (hr : ∀ w, (Instr.sliceAt ty vx (some vy) (some vz) none).run Try.prog w = .ok r w) (h : wpList Try.prog ops Q rest (a.put op.dst r) w) : wpList Try.prog ops Q (op :: rest) a w := by
  refine wpList_plain hgd fun K hK => ?_
  unfold Oper.wp execOp
  simp only [ho, hx, hy, hz, Option.map_some, Option.map_none, Sem.run_bind, Sem.run_pure, Result.andThen_ok, hr]
  exact hK _ _ h
theorem cut_slD {A : List Int} {a : Option Addr} {b o c p q : Nat} (hc : A.length ≤ c) (hn : a = none → c = 0) (ha : Az a b o A) (hp : p ≤ q) (hq : q ≤ A.length) :
    ∃ a' o', (∀ w, (Instr.sliceAt 29 (.slice a A.length c) (some (.int .i64 (p : Int))) (some (.int .i64 (q : Int))) none).run Try.prog w = .ok (.slice a' (q - p) (c - p)) w) ∧ Az a' b o' (slD A p q) ∧ (a' = none → c - p = 0) ∧ ∀ W, Bz W b o A → Bz W b o' (slD A p q) := by
  cases a with
  | none =>
    obtain rfl := hn rfl
    have e : A = [] := List.eq_nil_of_length_eq_zero (by omega)
    subst e
    obtain rfl : q = 0 := by simpa using hq
    obtain rfl : p = 0 := by omega
    exact ⟨none, o, fun w => by kernel_rfl, .inl rfl, fun _ => rfl, fun _ h => h⟩
  | some ad =>
    by_cases k : A = []
    · subst k
      obtain rfl : q = 0 := by simpa using hq
      obtain rfl : p = 0 := by omega
      refine ⟨some ad, o, fun w => ?_, .inl rfl, fun x => (by cases x), fun _ h => h⟩
      have tu := Try.underlying29
      have tz := Try.sizeOf5
      simp [Instr.sliceAt, Instr.slice, Instr.sliceBounds, run_underlying tu, run_sliceBound, go_sem, tz, Addr.add]
    · have e := ha.resolve_left k
      injection e with e
      subst e
      refine ⟨_, _, fun w => cut_both hp (by omega) w, .inr rfl, fun x => (by cases x), fun W h => ?_⟩
      have := bz_part h (p := p) (q := q - p) (by omega) hc
      exact this
theorem chg_setCells (b : Nat) : ∀ (vs : List Value) (o : Nat) (W : World), ChgT (fun k => k = b) W (W.setCells b o vs)
  | [], _, W => ChgT.refl _ W
  | v :: r, o, W => by
    rw [World.setCells]
    have h := ChgT.of_grown (grown_set W ⟨b, o, none⟩ v)
    exact ChgT.trans (S := fun k => k = b) ⟨h.os, h.tape, h.output, h.size, fun k hk hn => h.block k hk fun x => hn (Option.some.inj x).symm⟩ (chg_setCells b r (o + 1) _) fun j hj => .inl hj
/-- The result's block, the head's, the item's. -/
structure Dm (w0 W : World) : Prop where
  below : Below w0.heap.size w0 W
  size : w0.heap.size + 3 ≤ W.heap.size
  res : Bx W w0.heap.size false (.slice none 0 0) (.slice none 0 0)
  fr : W.there w0.heap.size 0 3
  hd : W.there (w0.heap.size + 1) 0 3
  it : W.there (w0.heap.size + 2) 0 3
theorem there_chg {S : Nat → Prop} {W W' : World} {b o n : Nat} (h : ChgT S W W') (hs : ¬ S b) (hb : b < W.heap.size) (ht : W.there b o n) : W'.there b o n := fun j hj => by
  have e := h.block b hb hs
  rw [World.cell?_of_block (a := ⟨b, o + j, none⟩) e]
  refine ⟨(ht j hj).1, ?_⟩
  have := (ht j hj).2
  simp only [World.frozen?, e] at this ⊢
  exact this
theorem Dm.chg {w0 W W' : World} (h : Dm w0 W) (hc : ChgT (fun k => w0.heap.size + 3 ≤ k) W W') : Dm w0 W' :=
  have hs := h.size
  ⟨h.below.trans (hc.below (by omega) fun k hk => by omega), Nat.le_trans h.size hc.size, h.res.chg hc (by omega), there_chg hc (by omega) (by omega) h.fr, there_chg hc (by omega) (by omega) h.hd, there_chg hc (by omega) (by omega) h.it⟩
theorem Dm.keep {w0 W W' : World} (h : Dm w0 W) (hb : Below W.heap.size W W') : Dm w0 W' := h.chg (ChgT.of_below hb)
theorem Dm.set {w0 W : World} (h : Dm w0 W) (i : Nat) (vs : List Value) (h0 : 1 ≤ i) (h3 : i < 3) : Dm w0 (W.setCells (w0.heap.size + i) 0 vs) := by
  have c := chg_setCells (w0.heap.size + i) vs 0 W
  have hs := h.size
  exact ⟨h.below.trans (c.below (by omega) fun k hk => by omega), Nat.le_trans h.size c.size, h.res.chg c (by omega), World.there_setCells h.fr _ _ _, World.there_setCells h.hd _ _ _, World.there_setCells h.it _ _ _⟩
theorem Stk.set {w0 W : World} {sv : Value} {L : List LvT} {M : Nat} (h : Stk (w0.heap.size + 3) W sv L M) (i : Nat) (vs : List Value) (h3 : i < 3) : Stk (w0.heap.size + 3) (W.setCells (w0.heap.size + i) 0 vs) sv L M := by
  have c := chg_setCells (w0.heap.size + i) vs 0 W
  exact h.conv c.size fun k hk hk2 => c.block k hk2 (by omega)
def CnS (p : Nat) (L : List LvT) : Prop := ∀ x ∈ L, x.2.1.length + 1 ≤ p
def CnW (p : Nat) (L : List LvT) : Prop := ∀ x ∈ L, x.2.1.length ≤ p
theorem CnW.to {p p' : Nat} {L : List LvT} (h : CnW p L) (hp : p + 1 ≤ p') : CnS p' L := fun x hx => by have := h x hx; omega
theorem CnS.weak {p : Nat} {L : List LvT} (h : CnS p L) : CnW p L := fun x hx => by have := h x hx; omega
/-- The machine's frame. -/
def FrD (w0 : World) (bv sv inn pv qv ev : Value) (a : Act) : Prop := ∃ x11 x12 x13 x14 x15 x16 x17 x18 x19 x20 x21 x22 x23 x24 x25 x26 x27 x28 x29 x30 x31 x32 x33 x34 x35 x36 x37 x38 x39 x40 x41 x42 x43 x44 x45 x46 x47 x48 x49 x50 x51 x52 x53 x54 x55 x56 x57 x58 x59 x60 x61 x62 x63 x64 x65 x66 x67 x68 x69 x70 x71 x72 x73 x74 x75 x76 x77 x78 x79 x80 x81 x82 x83 x84 x85 x86 x87 x88 x89 x90 x91 x92 x93 x94 x95 x96 x97 x98 x99 x100 x101 x102 x103 : Value, a = { tmps := #[bv, undef, .pointer (some ⟨w0.heap.size, 0, none⟩), .int .i64 0, sv, inn, pv, qv, .pointer (some ⟨w0.heap.size + 1, 0, none⟩), .pointer (some ⟨w0.heap.size + 2, 0, none⟩), ev, x11, x12, x13, x14, x15, x16, x17, x18, x19, x20, x21, x22, x23, x24, x25, x26, x27, x28, x29, x30, x31, x32, x33, x34, x35, x36, x37, x38, x39, x40, x41, x42, x43, x44, x45, x46, x47, x48, x49, x50, x51, x52, x53, x54, x55, x56, x57, x58, x59, x60, x61, x62, x63, x64, x65, x66, x67, x68, x69, x70, x71, x72, x73, x74, x75, x76, x77, x78, x79, x80, x81, x82, x83, x84, x85, x86, x87, x88, x89, x90, x91, x92, x93, x94, x95, x96, x97, x98, x99, x100, x101, x102, x103], defers := [] }
/-- What holds at each label: 0 broken, 1 begin, 2 down, 3 ended, 4 inside. -/
def JD (A : List Int) (bv : Value) (w0 : World) (R : Int × Tr) (n l : Nat) (a : Act) (W : World) : Prop := match l with
  | 0 => ∃ (e : Int) (sv inn pv qv : Value), R = (e, zT) ∧ FrD w0 bv sv inn pv qv (.int .i64 e) a ∧ Dm w0 W
  | 1 => ∃ (sv inn ev : Value) (p q : Nat) (L : List LvT) (M : Nat), FrD w0 bv sv inn (.int .i64 (p : Int)) (.int .i64 (q : Int)) ev a ∧ Dm w0 W ∧ Stk (w0.heap.size + 3) W sv L M ∧ p ≤ q ∧ WfD A q L ∧ CnW p L ∧ L.length ≤ 1024 ∧ R = begD A L p q ∧ 4 * (A.length - p) + 2 * L.length + 1 ≤ n
  | 2 => ∃ (sv inn ev qv : Value) (p s h : Nat) (L : List LvT) (M : Nat), FrD w0 bv sv inn (.int .i64 (p : Int)) qv ev a ∧ Dm w0 W ∧ Stk (w0.heap.size + 3) W sv L M ∧ W.rangeAt (w0.heap.size + 1) 0 [.bool true, .int .i64 (s : Int), .int .i64 (h : Int)] ∧ WfD A (p + h) L ∧ CnS p L ∧ L.length ≤ 1024 ∧ R = (if 1024 ≤ L.length then (74, zT) else insD A (p + h) [] L p) ∧ 4 * (A.length - p) + 2 * L.length + 4 ≤ n
  | 3 => ∃ (sv inn ev qv d q : Value) (p : Nat) (t : Tr) (L : List LvT) (M : Nat), FrD w0 bv sv inn (.int .i64 (p : Int)) qv ev a ∧ Dm w0 W ∧ Stk (w0.heap.size + 3) W sv L M ∧ W.rangeAt (w0.heap.size + 2) 0 [.bool t.l, d, q] ∧ Ot W t (fun j => M ≤ j ∧ sv.ownBlock ≠ some j) d q ∧ WfD A p L ∧ CnS p L ∧ L.length ≤ 1024 ∧ R = cntD A L p t ∧ 4 * (A.length - p) + 2 * L.length + 3 ≤ n
  | 4 => ∃ (sv inn ev qv v : Value) (p e : Nat) (ts : List Tr) (L : List LvT) (M : Nat), FrD w0 bv sv inn (.int .i64 (p : Int)) qv ev a ∧ Dm w0 W ∧ Stk (w0.heap.size + 3) W sv ((e, ts, v) :: L) M ∧ p ≤ e ∧ WfD A e L ∧ CnS p L ∧ ts.length ≤ p ∧ L.length + 1 ≤ 1024 ∧ R = insD A e ts L p ∧ 4 * (A.length - p) + 2 * (L.length + 1) + 2 ≤ n
  | _ => False
end Go.Proofs.Ytaefmdofchjofaa
