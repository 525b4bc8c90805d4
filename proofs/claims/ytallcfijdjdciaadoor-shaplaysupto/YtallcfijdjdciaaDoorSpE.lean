import Derived.Test.YtallcfijdjdciaaDoorSpD
import Derived.Test.YtallcfijdjdciaaDoorQTail
/- Layer 3: the law ShaPlays. -/
namespace Go.Proofs.YtallcfijdjdciaaDoor
open Go.RowKit Go.Sort
/-- A step as it lies in memory. -/
structure OpR where
  kd : Int
  on : Int
  a : Option Addr
  g : Nat
  p : Nat
  c : Nat
  Z : List (BitVec 8)
def OpR.v (r : OpR) : List Value := [.int .i64 r.kd, .int .i64 r.on, .slice r.a r.Z.length r.c]
structure OpR.ok (W : World) (r : OpR) : Prop where
  n0 : -9223372036854775808 ≤ r.on
  n1 : r.on < 9223372036854775808
  hc : r.Z.length ≤ r.c
  ha : At r.a r.g r.p r.Z
  hZ : Byo W r.g r.p r.Z
def noOp : OpR := ⟨0, 0, none, 0, 0, 0, []⟩
def totZ (XS : List OpR) : Nat := (XS.map fun r => r.Z.length).sum
theorem totZ_snoc {XS : List OpR} {i : Nat} (h : i < XS.length) : totZ (XS.take (i + 1)) = totZ (XS.take i) + (XS.getD i noOp).Z.length := by
  unfold totZ
  rw [List.take_add_one, List.getElem?_eq_getElem h, List.getD, List.getElem?_eq_getElem h]
  simp only [Option.toList_some, List.map_append, List.sum_append, List.map_cons, List.map_nil, List.sum_cons, List.sum_nil, Nat.add_zero, Option.getD_some]
theorem totZ_le (XS : List OpR) (i : Nat) : totZ (XS.take i) ≤ totZ XS := by
  unfold totZ
  conv => rhs; rw [← List.take_append_drop i XS]
  rw [List.map_append, List.sum_append]; omega
/-- Steps in a row. -/
def Ops (W : World) (b o : Nat) (XS : List OpR) : Prop := ∀ i, i < XS.length → W.rangeAt b (o + i * 3) (XS.getD i noOp).v ∧ (XS.getD i noOp).ok W
theorem step_any {w W : World} {bp bq : Nat} {vp vd : Nat → Value} {oP oD : Nat → Nat → Prop} {ev : Nat → List (BitVec 8)} {T i : Nat} {r : OpR} (i3 : i < 3) (hT : T + r.Z.length < 1073740000) (hr : r.ok w) (tb1 : Wds w 0 0 hN) (tb2 : Wds w 1 0 kN) (h : St3 w W bp bq vp vd oP oD ev T) :
    Calls Tryd.prog 9 #[vp i, vd i, .agg r.v.toArray] W fun e w' => e = .returned (.bool true) ∧ ∃ vp vd oP oD ev, St3 w w' bp bq vp vd oP oD ev (T + r.Z.length) := by
  obtain ⟨kd, on, a, g, p, c, Z⟩ := r
  obtain ⟨n0, n1, hc, ha, hZ⟩ := hr
  by_cases k1 : kd = 1
  · exact step_write k1 i3 hT hc ha hZ tb1 tb2 h
  by_cases k2 : kd = 2
  · exact step_sum k2 i3 hT hc ha hZ tb1 tb2 h
  by_cases k3 : kd = 3
  · exact step_len k3 i3 hT hc ha hZ tb1 tb2 h
  by_cases k4 : kd = 4
  · exact step_reset k4 i3 hT hc ha hZ tb1 tb2 h
  exact step_else k1 k2 k3 k4 i3 hT hc ha hZ tb1 tb2 h
/-- Of three: the one. -/
def pk3 {α : Type} (x y z : α) (i : Nat) : α := if i = 0 then x else if i = 1 then y else z
theorem St3.start {w W : World} {bp bq b0 b1 b2 d0 d1 d2 : Nat} (hB : Below w.heap.size w W) (l0 : w.heap.size ≤ b0) (l1 : b0 < b1) (l2 : b1 < b2) (l3 : b2 < bp) (l4 : bp < d0) (l5 : d0 < d1) (l6 : d1 < d2) (l7 : d2 < bq) (l8 : bq < W.heap.size)
    (t0 : Tx W b0 []) (t1 : Tx W b1 []) (t2 : Tx W b2 []) (e0 : Dh W w.heap.size d0 (.slice none 0 0) []) (e1 : Dh W w.heap.size d1 (.slice none 0 0) []) (e2 : Dh W w.heap.size d2 (.slice none 0 0) [])
    (cp : ∀ i, i < 3 → W.cell? ⟨bp, i, none⟩ = some (.pointer (some ⟨pk3 b0 b1 b2 i, 0, none⟩))) (cq : ∀ i, i < 3 → W.cell? ⟨bq, i, none⟩ = some (.pointer (some ⟨pk3 d0 d1 d2 i, 0, none⟩))) (fp : ∀ j, W.frozen? ⟨bp, j, none⟩ = false) (fq : ∀ j, W.frozen? ⟨bq, j, none⟩ = false) :
    St3 w W bp bq (fun i => .pointer (some ⟨pk3 b0 b1 b2 i, 0, none⟩)) (fun i => .pointer (some ⟨pk3 d0 d1 d2 i, 0, none⟩)) (fun i k => k = pk3 b0 b1 b2 i) (fun i k => k = pk3 d0 d1 d2 i ∨ Value.ownBlock (.slice none 0 0) = some k) (fun _ => []) 0 := by
  have nn : ∀ {k : Nat}, Value.ownBlock (.slice none 0 0) = some k → False := fun h => by cases h
  have th : ∀ i, i < 3 → i = 0 ∨ i = 1 ∨ i = 2 := fun i hi => by omega
  refine ⟨hB, by omega, by omega, by omega, by omega, by omega, fun i hi => ⟨cp i hi, cq i hi⟩, fun j => ⟨fp j, fq j⟩, ?_, ?_, ?_, ?_, ?_, ?_, ?_, fun i hi => Nat.le_refl _⟩
  · intro i hi
    rcases th i hi with rfl | rfl | rfl
    · exact ⟨b0, rfl, t0, fun j => Iff.rfl⟩
    · exact ⟨b1, rfl, t1, fun j => Iff.rfl⟩
    · exact ⟨b2, rfl, t2, fun j => Iff.rfl⟩
  · intro i hi
    rcases th i hi with rfl | rfl | rfl
    · exact ⟨d0, _, rfl, e0, fun j => Iff.rfl⟩
    · exact ⟨d1, _, rfl, e1, fun j => Iff.rfl⟩
    · exact ⟨d2, _, rfl, e2, fun j => Iff.rfl⟩
  · intro i hi k hk
    rcases th i hi with rfl | rfl | rfl <;> (simp only [pk3] at hk; simp at hk; omega)
  · intro i hi k hk
    rcases hk with hk | hk
    · rcases th i hi with rfl | rfl | rfl <;> (simp only [pk3] at hk; simp at hk; omega)
    · exact (nn hk).elim
  · intro i j hi hj k hk hk2
    rcases hk2 with hk2 | hk2
    · rcases th i hi with rfl | rfl | rfl <;> rcases th j hj with rfl | rfl | rfl <;> (simp only [pk3] at hk hk2; simp at hk hk2; omega)
    · exact nn hk2
  · intro i j hi hj ne k hk hk2
    rcases th i hi with rfl | rfl | rfl <;> rcases th j hj with rfl | rfl | rfl <;> (simp only [pk3] at hk hk2; simp at hk hk2 ne; try omega)
  · intro i j hi hj ne k hk hk2
    rcases hk with hk | hk
    · rcases hk2 with hk2 | hk2
      · rcases th i hi with rfl | rfl | rfl <;> rcases th j hj with rfl | rfl | rfl <;> (simp only [pk3] at hk hk2; simp at hk hk2 ne; try omega)
      · exact nn hk2
    · exact nn hk
/-- A copy put in another's place. -/
theorem St3.put {w W0 W1 W2 : World} {bp bq : Nat} {vp vd : Nat → Value} {oP oD : Nat → Nat → Prop} {ev : Nat → List (BitVec 8)} {T : Nat} (h : St3 w W0 bp bq vp vd oP oD ev T) {j : Nat} (hj : j < 3) {u1 u2 : Value} (hb : Below W0.heap.size W0 W1) (hb2 : Below W1.heap.size (W1.setCell ⟨bp, j, none⟩ u1) W2)
    {oP' oD' : Nat → Prop} {e' : List (BitVec 8)} (hp : PP W1 u1 e' oP') (hd : DD W2 w.heap.size u2 e' oD') (nP : ∀ k, oP' k → W0.heap.size ≤ k) (nD : ∀ k, oD' k → W1.heap.size ≤ k) (hl : e'.length ≤ T) :
    St3 w (W2.setCell ⟨bq, j, none⟩ u2) bp bq (upN vp j u1) (upN vd j u2) (upN oP j oP') (upN oD j oD') (upN ev j e') T := by
  have h1 := h.keep hb
  have O1 : Off bp W1 (W1.setCell ⟨bp, j, none⟩ u1) := (Off.refl bp W1).setCell _
  have O2 : Off bq W2 (W2.setCell ⟨bq, j, none⟩ u2) := (Off.refl bq W2).setCell _
  have s1 : (W1.setCell ⟨bp, j, none⟩ u1).heap.size = W1.heap.size := by simp
  have sz2 : W1.heap.size ≤ W2.heap.size := by have := hb2.size; rw [s1] at this; exact this
  have C12 : Chg (fun k => k = bp ∨ k = bq) W1 W2 := ((Chg.of_off O1).mono (fun k hk => .inl hk)).trans (Chg.of_below (S := fun _ => False) (by rw [s1]; exact hb2)) (fun k hk => hk.elim)
  have hc : Chg (fun k => k = bp ∨ k = bq) W0 (W2.setCell ⟨bq, j, none⟩ u2) := ((Chg.of_below hb).trans C12 (fun k hk => .inl hk)).trans (Chg.of_off O2) (fun k hk => .inl (.inr hk))
  have pl := h.plt
  have ql := h.qlt
  have pl1 := h1.plt
  have ql1 := h1.qlt
  have e2p : W2.heap[bp]? = (W1.setCell ⟨bp, j, none⟩ u1).heap[bp]? := hb2.block bp pl1
  have e2q : W2.heap[bq]? = W1.heap[bq]? := (hb2.block bq ql1).trans (O1.block bq ql1 (Ne.symm h.pq))
  refine h.upd hj hc (fun k hk => by rcases hk with q | q; exact .inr (.inr (.inl q)); exact .inr (.inr (.inr (.inl q)))) (fun l hl' => ?_) (fun l => ?_) (hp.same fun k hk => ?_) (hd.same fun k hk => ?_) (fun k hk => .inr (nP k hk)) (fun k hk => .inr (Nat.le_trans hb.size (nD k hk))) (fun k hk hk2 => ?_) (Nat.le_refl _) hl
  · obtain ⟨c1, c2⟩ := h1.cell l hl'
    constructor
    · rw [World.cell?_setCell_far _ _ _ _ (Ne.symm h.pq), World.cell?_of_block (w := W1.setCell ⟨bp, j, none⟩ u1) (a := ⟨bp, l, none⟩) e2p]
      by_cases e : l = j
      · subst e; rw [upN_at]; exact World.cell?_setCell_same' _ _ _ (by rw [c1]; rfl)
      · rw [upN_ne _ _ e, World.cell?_setCell_other _ _ _ _ (fun x => e (by cases x; rfl))]; exact c1
    · have c2' : W2.cell? ⟨bq, l, none⟩ = some (vd l) := by rw [World.cell?_of_block (w := W1) (a := ⟨bq, l, none⟩) e2q]; exact c2
      by_cases e : l = j
      · subst e; rw [upN_at]; exact World.cell?_setCell_same' _ _ _ (by rw [c2']; rfl)
      · rw [upN_ne _ _ e, World.cell?_setCell_other _ _ _ _ (fun x => e (by cases x; rfl))]; exact c2'
  · refine ⟨?_, ?_⟩
    · rw [World.frozen?_setCell]; exact frozen_same e2p (by rw [World.frozen?_setCell]; exact (h1.free l).1)
    · rw [World.frozen?_setCell]; exact frozen_same e2q (h1.free l).2
  · have a := nP k hk
    have b := hp.lt hk
    exact (O2.block k (by omega) (by omega)).trans ((hb2.block k b).trans (O1.block k b (by omega)))
  · have a := nD k hk
    have b := hd.lt hk
    exact O2.block k b (by omega)
  · have a := hp.lt hk
    have b := nD k hk2
    omega
theorem quiet_load_midP {P : Program} {C : World → Prop} {a : Act} {o : Oper} {K : Act → Prop} (ty : TypeId) (x : Operand) (ho : o.op = .load ty x)
    (b f : Nat) (hx : a.eval x = .pointer (some ⟨b, f, none⟩)) (cs : List Value) (d : TypeDesc) (hS : ∀ w, C w → w.rangeAt b f cs)
    (hu : P.underlying ty = some d) (hd : d.isRow = true) (hi : (P.info? ty).map (·.size) = some cs.length) (h : K (a.put o.dst (.agg cs.toArray))) : o.quiet P a C K :=
  ⟨.agg cs.toArray, fun w hw => by
    unfold Oper.quietAt execOp
    simp only [ho, hx, Instr.loadAt, Instr.sureAddr, Sem.run_bind, Sem.run_pure, Result.andThen_ok, run_loadVar_mid w b f ty cs d (hS w hw) hu hd hi]
    exact ⟨rfl, rfl⟩, h⟩
theorem size_op : (Tryd.prog.info? 36).map (·.size) = some 3 := by kernel_rfl
set_option maxRecDepth 100000 in
set_option maxHeartbeats 16000000 in
theorem plays_any {a : Option Addr} {b o c : Nat} {XS : List OpR} (hn : XS.length < 1073740000) (hT : totZ XS < 1073740000) (ha : XS = [] ∨ a = some ⟨b, o, none⟩) (w : World) (hX : Ops w b o XS) (tb1 : Wds w 0 0 hN) (tb2 : Wds w 1 0 kN) :
    Calls Tryd.prog 3 #[.slice a XS.length c] w fun e w' => e = .returned (.bool true) ∧ Below w.heap.size w w' := by
  obtain ⟨n, en⟩ : ∃ n, Hid (n = XS.length) := ⟨_, rfl⟩
  have HA : Hid ((XS = [] ∨ a = some ⟨b, o, none⟩) ∧ Ops w b o XS ∧ totZ XS < 1073740000) := ⟨ha, hX, hT⟩
  have TB : Hid (∀ W', Below w.heap.size w W' → Wds W' 0 0 hN ∧ Wds W' 1 0 kN) := fun W' B => ⟨tb1.keep B, tb2.keep B⟩
  have nb : (n : Int) < 1073740000 := by rw [en.out]; omega
  rw [← en.out]
  have NW : Hid (∀ W, Calls Tryd.prog 4 #[] W fun e w' => e = .returned (.pointer (some ⟨W.heap.size, 0, none⟩)) ∧ Tx w' W.heap.size [] ∧ Below W.heap.size W w') := new_any
  have DW : Hid (∀ W, Calls Tryd.prog 5 #[] W fun e w' => e = .returned (.pointer (some ⟨W.heap.size, 0, none⟩)) ∧ Dh w' W.heap.size W.heap.size (.slice none 0 0) [] ∧ Below W.heap.size W w') := dnew_any
  have zh := hz_zero
  have lz := hz_len
  have TZ : Hid (∀ (W : World) (t : TypeId), Tx (W.alloc (.cells hz.toArray t)) W.heap.size []) := fun W t => Tx.of rng_newK (Loose.new _ _ _ rfl)
  generalize hz = M at *
  clear hn ha hX hT tb1 tb2 lz
  go_enter Tryd.func3, Tryd.ntmps3
  refine wp_seq_k fun K0 h0 => ?_
  have H0 : Hid _ := h0
  clear h0
  go_wp2
  refine H0.out _ _ ?_
  clear H0
  refine wp_seq_k fun K1 h1 => ?_
  have H1 : Hid _ := h1
  clear h1
  go_wp2_with fail
  with_reducible refine (NW.out _).mono ?_
  rintro e1 w1 ⟨rfl, t1, hb1⟩
  go_wp2_with fail
  with_reducible refine (NW.out _).mono ?_
  rintro e1 w2 ⟨rfl, t2, hb2⟩
  go_wp2
  refine H1.out _ _ ?_
  clear H1
  have s1 : w.heap.size < w1.heap.size := t1.lt
  have s2 : w1.heap.size < w2.heap.size := t2.lt
  have B2 : Below w.heap.size w w2 := hb1.trans (hb2.mono hb1.size)
  have sA : (w2.alloc (.cells M.toArray 29)).heap.size = w2.heap.size + 1 := by simp
  have bA : Below w2.heap.size w2 (w2.alloc (.cells M.toArray 29)) := (Below.refl _ _).alloc (Nat.le_refl _) _
  refine wp_world (fun W => Below w.heap.size w W ∧ Tx W w.heap.size [] ∧ Tx W w1.heap.size [] ∧ Tx W w2.heap.size [] ∧ (∀ i, i < 3 → W.cell? ⟨w2.heap.size + 1, i, none⟩ = some (.pointer (some ⟨pk3 w.heap.size w1.heap.size w2.heap.size i, 0, none⟩))) ∧ (∀ j, W.frozen? ⟨w2.heap.size + 1, j, none⟩ = false) ∧ w2.heap.size + 1 < W.heap.size) ⟨?_, ?_, ?_, ?_, ?_, ?_, ?_⟩ ?_
  · exact (B2.alloc B2.size _).alloc (by simp; omega) _
  · exact ((t1.keep hb2).keep bA).keep ((Below.refl _ _).alloc (Nat.le_refl _) _)
  · exact (t2.keep bA).keep ((Below.refl _ _).alloc (Nat.le_refl _) _)
  · exact (TZ.out w2 _).keep ((Below.refl _ _).alloc (Nat.le_refl _) _)
  · intro i hi
    rw [← sA, World.cell?_alloc_mark]
    have : i = 0 ∨ i = 1 ∨ i = 2 := by omega
    rcases this with rfl | rfl | rfl <;> rfl
  · intro j; rw [← sA]; simp
  · simp
  clear sA bA B2 hb1 hb2 t1 t2 TZ zh
  rintro W ⟨B, t0, t1, t2, cp, fp, lp⟩
  have L1 : Hid (w.heap.size < w1.heap.size ∧ w1.heap.size < w2.heap.size ∧ w2.heap.size < w2.heap.size + 1) := ⟨s1, s2, Nat.lt_succ_self _⟩
  clear s1 s2
  generalize w2.heap.size + 1 = bp at *
  generalize w2.heap.size = b2 at *
  generalize w1.heap.size = b1 at *
  refine wp_seq_k fun K2 h2 => ?_
  have H2 : Hid _ := h2
  clear h2
  go_wp2_with fail
  with_reducible refine (DW.out _).mono ?_
  rintro e1 w3 ⟨rfl, d3, hb3⟩
  go_wp2_with fail
  with_reducible refine (DW.out _).mono ?_
  rintro e1 w4 ⟨rfl, d4, hb4⟩
  go_wp2_with fail
  with_reducible refine (DW.out _).mono ?_
  rintro e1 w5 ⟨rfl, d5, hb5⟩
  go_wp2
  refine H2.out _ _ ?_
  clear H2
  have nn : ∀ {j : Nat}, Value.ownBlock (.slice none 0 0) = some j → False := fun h => by cases h
  have B35 : Below W.heap.size W w5 := (hb3.trans (hb4.mono hb3.size)).trans (hb5.mono (Nat.le_trans hb3.size hb4.size))
  have bB : Below w5.heap.size w5 (w5.alloc (.cells #[.pointer (some ⟨W.heap.size, 0, none⟩), .pointer (some ⟨w3.heap.size, 0, none⟩), .pointer (some ⟨w4.heap.size, 0, none⟩)] 31)) := (Below.refl _ _).alloc (Nat.le_refl _) _
  have lq3 := d3.lt
  have lq4 := d4.lt
  have lq5 := d5.lt
  refine wp_world (fun V => ∃ vp vd oP oD ev, St3 w V bp w5.heap.size vp vd oP oD ev (totZ (XS.take 0)) ∧ V.cell? ⟨bp, 0, none⟩ = some (.pointer (some ⟨w.heap.size, 0, none⟩)) ∧ V.cell? ⟨bp, 1, none⟩ = some (.pointer (some ⟨b1, 0, none⟩))) ?_ ?_
  · have BF := B35.trans (bB.mono B35.size)
    refine ⟨_, _, _, _, _, St3.start (b0 := w.heap.size) (b1 := b1) (b2 := b2) (d0 := W.heap.size) (d1 := w3.heap.size) (d2 := w4.heap.size) (B.trans (BF.mono B.size)) (Nat.le_refl _) L1.out.1 L1.out.2.1 L1.out.2.2 lp lq3 lq4 lq5 (by simp) (t0.keep BF) (t1.keep BF) (t2.keep BF) ?_ ?_ ?_ (fun i hi => cell_keep BF (cp i hi)) (fun i hi => ?_) (fun j => frozen_same (BF.block bp lp) (fp j)) (fun j => by simp), cell_keep BF (cp 0 (by decide)), cell_keep BF (cp 1 (by decide))⟩
    · exact ((((d3.same (hb4.block _ lq3) (fun j hj => (nn hj).elim)).same (hb5.block _ (Nat.lt_of_lt_of_le lq3 hb4.size)) (fun j hj => (nn hj).elim))).same (bB.block _ (Nat.lt_of_lt_of_le lq3 (Nat.le_trans hb4.size hb5.size))) (fun j hj => (nn hj).elim)).base B.size
    · exact ((d4.same (hb5.block _ lq4) (fun j hj => (nn hj).elim)).same (bB.block _ (Nat.lt_of_lt_of_le lq4 hb5.size)) (fun j hj => (nn hj).elim)).base (Nat.le_trans B.size hb3.size)
    · exact (d5.same (bB.block _ lq5) (fun j hj => (nn hj).elim)).base (Nat.le_trans B.size (Nat.le_trans hb3.size hb4.size))
    · rw [World.cell?_alloc_mark]
      have : i = 0 ∨ i = 1 ∨ i = 2 := by omega
      rcases this with rfl | rfl | rfl <;> rfl
  clear B35 bB d3 d4 d5 hb3 hb4 hb5 lq3 lq4 lq5 t0 t1 t2 cp fp lp L1 B nn NW DW
  rintro V ⟨vp0, vd0, oP0, oD0, ev0, h0, y0, y1⟩
  generalize w5.heap.size = bq at *
  go_wp2_with fail
  go_loopg [5] n (fun k iv wr => ∃ i : Nat, k = n - i ∧ i ≤ n ∧ iv = .int .i64 (i : Int) ∧ ∃ vp vd oP oD ev, St3 w wr bp bq vp vd oP oD ev (totZ (XS.take i)))
  case atStart => exact ⟨0, rfl, Nat.zero_le _, rfl, _, _, _, _, _, h0⟩
  case round =>
    clear h0 y0 y1
    obtain ⟨i, hk, hi, rfl, vp, vd, oP, oD, ev, hs⟩ := hrel
    have HK : Hid (gk = n - i ∧ i ≤ n) := ⟨hk, hi⟩
    clear hk
    by_cases h8 : i = n
    · subst h8
      have HS : Hid (St3 w wr bp bq vp vd oP oD ev (totZ XS)) := hs.more (totZ_le _ _)
      clear hs
      go_wp2_with fail
      go_loopg [10] 3 (fun k iv wq => ∃ j : Nat, k = 3 - j ∧ j ≤ 3 ∧ iv = .int .i64 (j : Int) ∧ St3 w wq bp bq vp vd oP oD ev (totZ XS))
      case atStart => exact ⟨0, rfl, by decide, rfl, HS.out⟩
      case round =>
        clear HS HK
        obtain ⟨j, hk, hj, rfl, hs⟩ := hrel
        have HK : Hid (gk = 3 - j ∧ j ≤ 3) := ⟨hk, hj⟩
        clear hk
        by_cases h9 : j = 3
        · subst h9
          have HB : Hid (Below w.heap.size w wr) := hs.below
          clear hs
          go_wp2
          simp [bodyPost, results, Tryd.results3, go_sem]
          exact HB.out
        · have j3 : j < 3 := by omega
          have j3' : (j : Int) < 3 := by omega
          have j0' : ¬ (j : Int) < 0 := by omega
          have lt : (ev j).length < 1073740000 := Nat.lt_of_le_of_lt (hs.len j j3) HA.out.2.2
          have CS : Hid (∀ d os, Calls Tryd.prog 10 #[vp j] (grow (redrawn wr d) os) fun r w' => r = .returned (.agg (byts (shaL (ev j))).toArray) ∧ Below (grow (redrawn wr d) os).heap.size (grow (redrawn wr d) os) w') := fun d os => by
            have hk := hs.keep (below_regrown wr d os)
            exact P_sum (hk.pp j j3) lt (TB.out _ hk.below).1 (TB.out _ hk.below).2
          have CD : Hid (∀ d os, Calls Tryd.prog 11 #[vd j] (grow (redrawn wr d) os) fun r w' => r = .returned (.agg (byts (shaL (ev j))).toArray) ∧ Below (grow (redrawn wr d) os).heap.size (grow (redrawn wr d) os) w') := fun d os => D_sum ((hs.keep (below_regrown wr d os)).dd j j3) lt
          have CL : Hid (∀ d os, Calls Tryd.prog 12 #[vp j] (grow (redrawn wr d) os) fun r w' => r = .returned (.int .i64 ((ev j).length : Int)) ∧ Below (grow (redrawn wr d) os).heap.size (grow (redrawn wr d) os) w') := fun d os => P_len ((hs.keep (below_regrown wr d os)).pp j j3)
          have DL : Hid (∀ d os, Calls Tryd.prog 13 #[vd j] (grow (redrawn wr d) os) fun r w' => r = .returned (.int .i64 ((ev j).length : Int)) ∧ Below (grow (redrawn wr d) os).heap.size (grow (redrawn wr d) os) w') := fun d os => D_len ((hs.keep (below_regrown wr d os)).dd j j3)
          have EQ := eq_hash (shaL_len (ev j)) (shaL_len (ev j))
          rw [decide_eq_true rfl] at EQ
          obtain ⟨y0, y1⟩ := hs.cell j j3
          have HS : Hid (St3 w wr bp bq vp vd oP oD ev (totZ XS)) := hs
          clear hs lt
          generalize byts (shaL (ev j)) = M2 at *
          generalize ((ev j).length : Int) = LN at *
          generalize vp j = v1 at *
          generalize vd j = v2 at *
          have r0 := fun d os => cell_regrown y0 d os
          have r1 := fun d os => cell_regrown y1 d os
          go_wp2_with fail
          (try simp only [Act.put])
          refine wp_region_quiet_below (by kernel_rfl) (by kernel_rfl) ?_
          repeat
            first
              | go_big_quiet_skip
              | (go_big_quiet_want; go_big_quiet_op; go_big_quiet_on)
              | (go_big_quiet_want
                 go_big_quiet_op
                 apply Exists.intro
                 refine ⟨fun p => ?_, ?_⟩
                 · (first | (go_at_call 10; with_reducible exact Calls.regrown_of (CS.out p.d p.os)) | (go_at_call 11; with_reducible exact Calls.regrown_of (CD.out p.d p.os)) | (go_at_call 12; with_reducible exact Calls.regrown_of (CL.out p.d p.os)) | (go_at_call 13; with_reducible exact Calls.regrown_of (DL.out p.d p.os)))
                 go_big_quiet_on)
          refine wpQuiet_nil ?_
          rintro w6 ⟨r, rfl⟩
          have H6 : Hid (St3 w (grow (redrawn wr r.d) r.os) bp bq vp vd oP oD ev (totZ XS)) := HS.out.keep (below_regrown wr r.d r.os)
          generalize grow (redrawn wr r.d) r.os = w6 at *
          clear r0 r1 CS CD CL DL EQ y0 y1
          go_wp2
          go_roundg (3 - (j + 1))
          case measure => have := HK.out; omega
          case rel => exact ⟨j + 1, rfl, by have := HK.out; omega, by go_num, H6.out⟩
    · have hlt : (i : Int) < (n : Int) := by omega
      have il : i < XS.length := by have := en.out; omega
      obtain ⟨rg, rk⟩ := HA.out.2.1 i il
      obtain rfl : a = some ⟨b, o, none⟩ := by
        rcases HA.out.1 with h | h
        · rw [h] at il; simp at il
        · exact h
      have NX : Hid (totZ (XS.take (i + 1)) = totZ (XS.take i) + (XS.getD i noOp).Z.length) := totZ_snoc il
      have TT' : totZ (XS.take i) + (XS.getD i noOp).Z.length < 1073740000 := by have := totZ_le XS (i + 1); have := NX.out; have := HA.out.2.2; omega
      generalize XS.getD i noOp = r at *
      have ST : Hid (∀ W' q, q < 3 → St3 w W' bp bq vp vd oP oD ev (totZ (XS.take i)) → Calls Tryd.prog 9 #[vp q, vd q, .agg r.v.toArray] W' fun e w' => e = .returned (.bool true) ∧ ∃ vp vd oP oD ev, St3 w w' bp bq vp vd oP oD ev (totZ (XS.take (i + 1)))) := fun W' q q3 h => by
        rw [NX.out]
        exact step_any q3 TT' rk (TB.out w (Below.refl _ _)).1 (TB.out w (Below.refl _ _)).2 h
      have rw' : wr.rangeAt b (o + i * 3) r.v := fun j v hv => by
        have := rg j v hv
        rw [hs.below.cell (p := ⟨b, o + i * 3 + j, none⟩) (World.block_lt_of_cell? _ _ this)]; exact this
      have TT : Hid (totZ (XS.take i) + r.Z.length < 1073740000) := TT'
      obtain ⟨kd, on, ra, rgg, rp, rc, Z⟩ := r
      have b0 := rk.n0
      have b1' := rk.n1
      change wr.rangeAt b (o + i * 3) [.int .i64 kd, .int .i64 on, .slice ra Z.length rc] at rw'
      have ST2 : Hid (∀ W' q, q < 3 → St3 w W' bp bq vp vd oP oD ev (totZ (XS.take i)) → Calls Tryd.prog 9 #[vp q, vd q, .agg #[.int .i64 kd, .int .i64 on, .slice ra Z.length rc]] W' fun e w' => e = .returned (.bool true) ∧ ∃ vp vd oP oD ev, St3 w w' bp bq vp vd oP oD ev (totZ (XS.take (i + 1)))) := ST.out
      have WH : Hid (∀ w', Calls Tryd.prog 6 #[.int .i64 on, .int .i64 3] w' fun e w2 => e = .returned (.int .i64 (wh on : Int)) ∧ w2 = w') := fun w' => which_any b0 b1' w'
      have q3 : wh on < 3 := wh_lt on
      have TN : Hid (totZ (XS.take i) ≤ totZ (XS.take (i + 1))) := by rw [NX.out]; exact Nat.le_add_right _ _
      have LB : Hid (totZ (XS.take i) < 1073740000) := Nat.lt_of_le_of_lt (Nat.le_add_right _ _) TT.out
      generalize wh on = q at *
      generalize Z.length = zn at *
      clear rg rk TT' TT ST b0 b1' h8 NX
      have q3' : (q : Int) < 3 := by omega
      have q0' : ¬ (q : Int) < 0 := by omega
      have onC : ([.int .i64 kd, .int .i64 on, .slice ra zn rc] : List Value).toArray.all (·.oneCell') = true := by simp [Value.oneCell']
      obtain ⟨OV, eOV⟩ : ∃ OV : List Value, Hid (OV = [.int .i64 kd, .int .i64 on, .slice ra zn rc]) := ⟨_, rfl⟩
      have FX : Hid (∀ w3, Below wr.heap.size wr w3 → w3.rangeAt wr.heap.size 0 OV → (w3.cell? ⟨wr.heap.size, 0, none⟩ = some (.int .i64 kd) ∧ w3.cell? ⟨wr.heap.size, 1, none⟩ = some (.int .i64 on)) ∧ St3 w w3 bp bq vp vd oP oD ev (totZ (XS.take i))) := fun w3 hb3 hr => by
        rw [eOV.out] at hr
        exact ⟨⟨hr 0 _ rfl, hr 1 _ rfl⟩, hs.keep hb3⟩
      rw [← eOV.out] at onC rw'
      have AV : Hid (OV.toArray = #[.int .i64 kd, .int .i64 on, .slice ra zn rc]) := by rw [eOV.out]; exact rfl
      rw [← AV.out] at ST2
      have iOV : (Tryd.prog.info? 36).map (·.size) = some OV.length := by rw [eOV.out]; exact size_op
      have l3 : (#[.int .i64 0, .int .i64 0, .slice none 0 0] : Array Value).size = OV.length := by rw [eOV.out]; rfl
      clear hs
      go_wp2_with first | (refine wpList_load_mid rfl 36 _ rfl b (o + i * 3) rfl OV _ rw' Tryd.underlying36 rfl iOV ?_) | (refine wpList_put_newK rfl 36 _ _ rfl OV rfl rfl l3 iOV onC ?_; intro w3 hb3 RX LX lt3; obtain ⟨⟨x0, x1⟩, h3⟩ := FX.out w3 hb3 RX; simp only [Act.put])
      with_reducible refine (WH.out _).mono ?_
      rintro e1 w2 ⟨rfl, rfl⟩
      clear hb3 LX lt3 FX WH rw' l3 x1
      generalize wr.heap.size = bo at *
      have HS : Hid (St3 w w2 bp bq vp vd oP oD ev (totZ (XS.take i))) := h3
      obtain ⟨y0, y1⟩ := h3.cell q q3
      by_cases k5 : kd = 5
      · subst k5
        obtain ⟨j, ej⟩ : ∃ j, j = (q + 1) % 3 := ⟨_, rfl⟩
        have j3 : j < 3 := by omega
        have j3' : (j : Int) < 3 := by omega
        have j0' : ¬ (j : Int) < 0 := by omega
        have em : ((q : Int) + 1) % 3 = (j : Int) := by omega
        have C1 := P_copy (h3.pp q q3)
        have nbq : bp ≠ bq := h3.pq
        have nqb : bq ≠ bp := Ne.symm nbq
        have C2 : Hid (∀ w4 v, Below w2.heap.size w2 w4 → Calls Tryd.prog 8 #[vd q] (w4.setCell ⟨bp, j, none⟩ v) fun r w' => ∃ b o', r = .returned (.pointer (some ⟨b, 0, none⟩)) ∧ DD w' w.heap.size (.pointer (some ⟨b, 0, none⟩)) (ev q) o' ∧ (∀ k, o' k → (w4.setCell ⟨bp, j, none⟩ v).heap.size ≤ k) ∧ Below (w4.setCell ⟨bp, j, none⟩ v).heap.size (w4.setCell ⟨bp, j, none⟩ v) w') := fun w4 v hb => by
          have h4 := HS.out.keep hb
          refine D_copy ((h4.dd q q3).same (fun k hk => setCell_other (HS.out.lowD q q3 k hk).2.1 ((h4.dd q q3).lt hk))) ?_ (Nat.lt_of_le_of_lt (HS.out.len q q3) (by have := LB.out; omega))
          have := h4.below.size; simpa using this
        have YJ : Hid (∀ w4, Below w2.heap.size w2 w4 → w4.cell? ⟨bp, j, none⟩ = some (vp j) ∧ w4.frozen? ⟨bp, j, none⟩ = false ∧ w4.cell? ⟨bq, q, none⟩ = some (vd q)) := fun w4 hb => by
          have h4 := HS.out.keep hb
          exact ⟨(h4.cell j j3).1, (h4.free j).1, (h4.cell q q3).2⟩
        have LE : Hid ((ev q).length ≤ totZ (XS.take i)) := HS.out.len q q3
        clear h3 ej
        generalize ev q = E at *
        generalize vp q = u1 at *
        generalize vd q = u2 at *
        go_wp2_with fail
        with_reducible refine C1.mono ?_
        rintro e1 w4 ⟨g4, o4, rfl, pp4, n4, hb4⟩
        obtain ⟨z0, f0, z1⟩ := YJ.out w4 hb4
        have C3 := C2.out w4 (.pointer (some ⟨g4, 0, none⟩)) hb4
        have H4 : Hid (Below w2.heap.size w2 w4 ∧ PP w4 (.pointer (some ⟨g4, 0, none⟩)) E o4 ∧ ∀ k, o4 k → w2.heap.size ≤ k) := ⟨hb4, pp4, n4⟩
        generalize vp j = vj at *
        clear hb4 pp4 n4 C1 C2 YJ y0 y1 x0
        go_wp2_with fail
        with_reducible refine C3.mono ?_
        rintro e1 w5 ⟨g5, o5, rfl, dd5, n5, hb5⟩
        have H5 : Hid (DD w5 w.heap.size (.pointer (some ⟨g5, 0, none⟩)) E o5 ∧ (∀ k, o5 k → w4.heap.size ≤ k) ∧ Below w4.heap.size (w4.setCell ⟨bp, j, none⟩ (.pointer (some ⟨g4, 0, none⟩))) w5) := ⟨dd5, fun k hk => by simpa using n5 k hk, by simpa using hb5⟩
        have h4 := HS.out.keep H4.out.1
        have e5 : w5.heap[bq]? = w4.heap[bq]? := (H5.out.2.2.block bq h4.qlt).trans (setCell_other nqb h4.qlt)
        have z2 : w5.cell? ⟨bq, j, none⟩ = some (vd j) := by rw [World.cell?_of_block (w := w4) (a := ⟨bq, j, none⟩) e5]; exact (h4.cell j j3).2
        have f2 : w5.frozen? ⟨bq, j, none⟩ = false := frozen_same e5 (h4.free j).2
        have FI : Hid (∃ vp vd oP oD ev, St3 w (w5.setCell ⟨bq, j, none⟩ (.pointer (some ⟨g5, 0, none⟩))) bp bq vp vd oP oD ev (totZ (XS.take (i + 1)))) := ⟨_, _, _, _, _, (HS.out.put j3 H4.out.1 H5.out.2.2 H4.out.2.1 H5.out.1 H4.out.2.2 H5.out.2.1 LE.out).more TN.out⟩
        generalize vd j = vj2 at *
        clear dd5 n5 hb5 C3 h4 e5 z0 f0 z1
        go_wp2
        go_roundg (n - (i + 1))
        case measure => have := HK.out; omega
        case rel => exact ⟨i + 1, rfl, by have := HK.out; omega, by go_num, FI.out⟩
      · have k5' : (kd == 5) = false := by simpa using k5
        clear k5 h3
        have r0 := fun d os => cell_regrown y0 d os
        have r1 := fun d os => cell_regrown y1 d os
        have lO : ∀ w', (∃ p : Regrown, w' = grow (redrawn w2 p.d) p.os) → w'.rangeAt bo 0 OV := by rintro w' ⟨p, rfl⟩; exact fun jj v hv => cell_keep (below_regrown w2 p.d p.os) (RX jj v hv)
        have ST3 : Hid (∀ d os, Calls Tryd.prog 9 #[vp q, vd q, .agg OV.toArray] (grow (redrawn w2 d) os) fun e w' => e = .returned (.bool true) ∧ ∃ vp vd oP oD ev, St3 w w' bp bq vp vd oP oD ev (totZ (XS.take (i + 1)))) := fun d os => ST2.out _ q q3 (HS.out.keep (below_regrown w2 d os))
        generalize vp q = u1 at *
        generalize vd q = u2 at *
        go_wp2_with fail
        (try simp only [Act.put])
        refine below_tail 9 (by kernel_rfl) (by kernel_rfl) ?_
        simp only [List.take_succ_cons, List.take_zero, List.drop_succ_cons, List.drop_zero]
        repeat
          first
            | go_big_quiet_skip
            | (go_big_quiet_want; refine quiet_load_midP 36 _ rfl bo 0 rfl OV _ lO Tryd.underlying36 rfl iOV ?_; simp only [Act.put, List.setIfInBounds_toArray, List.set_cons_succ, List.set_cons_zero]; go_big_quiet_on)
            | (go_big_quiet_want; go_big_quiet_op; go_big_quiet_on)
        refine wpQuiet_nil ?_
        rintro w6 ⟨p, rfl⟩
        have SC := ST3.out p.d p.os
        generalize grow (redrawn w2 p.d) p.os = w6 at *
        clear r0 r1 lO y0 y1 x0 RX
        go_wp2_with fail
        with_reducible refine SC.mono ?_
        rintro e1 w7 ⟨rfl, h7⟩
        have H7 : Hid (∃ vp vd oP oD ev, St3 w w7 bp bq vp vd oP oD ev (totZ (XS.take (i + 1)))) := h7
        clear h7 SC ST3
        go_wp2
        go_roundg (n - (i + 1))
        case measure => have := HK.out; omega
        case rel => exact ⟨i + 1, rfl, by have := HK.out; omega, by go_num, H7.out⟩
end Go.Proofs.YtallcfijdjdciaaDoor
