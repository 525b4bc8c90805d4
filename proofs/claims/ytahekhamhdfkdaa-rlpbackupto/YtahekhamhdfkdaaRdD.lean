import Derived.Test.YtahekhamhdfkdaaRdC
import Derived.Test.YtahekhamhdfkdaaRxA
/- Layer 7: Decode's machine. -/
namespace Go.Proofs.Ytahekhamhdfkdaa
open Go.RowKit Go.Sort

theorem size_hd7 : (Try.prog.info? 67).map (·.size) = some 3 := by kernel_rfl
/-- A slice of a slice, as an arm. -/
theorem wpList_slice_run {ops : Array Oper} {rest : List Oper} {op : Oper} {a : Act} {Q : Exit → Act → World → Prop} {w : World} (hgd : op.guard = none) {ty : TypeId} (x y z : Operand) (ho : op.op = .slice ty x (some y) (some z) none) {vx vy vz r : Value} (hx : a.eval x = vx) (hy : a.eval y = vy) (hz : a.eval z = vz)
    (hr : ∀ w, (Instr.sliceAt ty vx (some vy) (some vz) none).run Try.prog w = .ok r w) (h : wpList Try.prog ops Q rest (a.put op.dst r) w) : wpList Try.prog ops Q (op :: rest) a w := by
  refine wpList_plain hgd fun K hK => ?_
  unfold Oper.wp execOp
  simp only [ho, hx, hy, hz, Option.map_some, Option.map_none, Sem.run_bind, Sem.run_pure, Result.andThen_ok, hr]
  exact hK _ _ h
theorem cut_slD {A : List Int} {a : Option Addr} {b o c p q : Nat} (hc : A.length ≤ c) (hn : a = none → c = 0) (ha : Az a b o A) (hp : p ≤ q) (hq : q ≤ A.length) :
    ∃ a' o', (∀ w, (Instr.sliceAt 22 (.slice a A.length c) (some (.int .i64 (p : Int))) (some (.int .i64 (q : Int))) none).run Try.prog w = .ok (.slice a' (q - p) (c - p)) w) ∧ Az a' b o' (slD A p q) ∧ (a' = none → c - p = 0) ∧ ∀ W, Bz W b o A → Bz W b o' (slD A p q) := by
  cases a with
  | none =>
    obtain rfl := hn rfl
    have e : A = [] := List.eq_nil_of_length_eq_zero (by omega)
    subst e
    obtain rfl : q = 0 := by simpa using hq
    obtain rfl : p = 0 := by omega
    exact ⟨none, o, fun w => by kernel_rfl, .inl rfl, fun _ => rfl, fun _ h => h⟩
  | some ad =>
    by_cases k : A = []
    · subst k
      obtain rfl : q = 0 := by simpa using hq
      obtain rfl : p = 0 := by omega
      refine ⟨some ad, o, fun w => ?_, .inl rfl, fun x => (by cases x), fun _ h => h⟩
      have tu := Try.underlying22
      have tz := Try.sizeOf5
      simp [Instr.sliceAt, Instr.slice, Instr.sliceBounds, run_underlying tu, run_sliceBound, go_sem, tz, Addr.add]
    · have e := ha.resolve_left k
      injection e with e
      subst e
      refine ⟨_, _, fun w => cut_both hp (by omega) w, .inr rfl, fun x => (by cases x), fun W h => ?_⟩
      have := bz_part h (p := p) (q := q - p) (by omega) hc
      exact this
theorem chg_setCells (b : Nat) : ∀ (vs : List Value) (o : Nat) (W : World), ChgT (fun k => k = b) W (W.setCells b o vs)
  | [], _, W => ChgT.refl _ W
  | v :: r, o, W => by
    rw [World.setCells]
    have h := ChgT.of_grown (grown_set W ⟨b, o, none⟩ v)
    exact ChgT.trans (S := fun k => k = b) ⟨h.os, h.tape, h.output, h.size, fun k hk hn => h.block k hk fun x => hn (Option.some.inj x).symm⟩ (chg_setCells b r (o + 1) _) fun j hj => .inl hj
/-- The result's block, the head's, the item's. -/
structure Dm (w0 W : World) : Prop where
  below : Below w0.heap.size w0 W
  size : w0.heap.size + 3 ≤ W.heap.size
  res : Bx W w0.heap.size false (.slice none 0 0) (.slice none 0 0)
  fr : W.there w0.heap.size 0 3
  hd : W.there (w0.heap.size + 1) 0 3
  it : W.there (w0.heap.size + 2) 0 3
theorem there_chg {S : Nat → Prop} {W W' : World} {b o n : Nat} (h : ChgT S W W') (hs : ¬ S b) (hb : b < W.heap.size) (ht : W.there b o n) : W'.there b o n := fun j hj => by
  have e := h.block b hb hs
  rw [World.cell?_of_block (a := ⟨b, o + j, none⟩) e]
  refine ⟨(ht j hj).1, ?_⟩
  have := (ht j hj).2
  simp only [World.frozen?, e] at this ⊢
  exact this
theorem Dm.chg {w0 W W' : World} (h : Dm w0 W) (hc : ChgT (fun k => w0.heap.size + 3 ≤ k) W W') : Dm w0 W' :=
  have hs := h.size
  ⟨h.below.trans (hc.below (by omega) fun k hk => by omega), Nat.le_trans h.size hc.size, h.res.chg hc (by omega), there_chg hc (by omega) (by omega) h.fr, there_chg hc (by omega) (by omega) h.hd, there_chg hc (by omega) (by omega) h.it⟩
theorem Dm.keep {w0 W W' : World} (h : Dm w0 W) (hb : Below W.heap.size W W') : Dm w0 W' := h.chg (ChgT.of_below hb)
theorem Dm.set {w0 W : World} (h : Dm w0 W) (i : Nat) (vs : List Value) (h0 : 1 ≤ i) (h3 : i < 3) : Dm w0 (W.setCells (w0.heap.size + i) 0 vs) := by
  have c := chg_setCells (w0.heap.size + i) vs 0 W
  have hs := h.size
  exact ⟨h.below.trans (c.below (by omega) fun k hk => by omega), Nat.le_trans h.size c.size, h.res.chg c (by omega), World.there_setCells h.fr _ _ _, World.there_setCells h.hd _ _ _, World.there_setCells h.it _ _ _⟩
theorem Stk.set {w0 W : World} {sv : Value} {L : List LvT} {M : Nat} (h : Stk (w0.heap.size + 3) W sv L M) (i : Nat) (vs : List Value) (h3 : i < 3) : Stk (w0.heap.size + 3) (W.setCells (w0.heap.size + i) 0 vs) sv L M := by
  have c := chg_setCells (w0.heap.size + i) vs 0 W
  exact h.conv c.size fun k hk hk2 => c.block k hk2 (by omega)
def CnS (p : Nat) (L : List LvT) : Prop := ∀ x ∈ L, x.2.1.length + 1 ≤ p
def CnW (p : Nat) (L : List LvT) : Prop := ∀ x ∈ L, x.2.1.length ≤ p
theorem CnW.to {p p' : Nat} {L : List LvT} (h : CnW p L) (hp : p + 1 ≤ p') : CnS p' L := fun x hx => by have := h x hx; omega
theorem CnS.weak {p : Nat} {L : List LvT} (h : CnS p L) : CnW p L := fun x hx => by have := h x hx; omega
/-- The machine's frame. -/
def FrD (w0 : World) (bv sv inn pv qv ev : Value) (a : Act) : Prop := ∃ x11 x12 x13 x14 x15 x16 x17 x18 x19 x20 x21 x22 x23 x24 x25 x26 x27 x28 x29 x30 x31 x32 x33 x34 x35 x36 x37 x38 x39 x40 x41 x42 x43 x44 x45 x46 x47 x48 x49 x50 x51 x52 x53 x54 x55 x56 x57 x58 x59 x60 x61 x62 x63 x64 x65 x66 x67 x68 x69 x70 x71 x72 x73 x74 x75 x76 x77 x78 x79 x80 x81 x82 x83 x84 x85 x86 x87 x88 x89 x90 x91 x92 x93 x94 x95 x96 x97 x98 x99 x100 x101 x102 x103 : Value, a = { tmps := #[bv, undef, .pointer (some ⟨w0.heap.size, 0, none⟩), .int .i64 0, sv, inn, pv, qv, .pointer (some ⟨w0.heap.size + 1, 0, none⟩), .pointer (some ⟨w0.heap.size + 2, 0, none⟩), ev, x11, x12, x13, x14, x15, x16, x17, x18, x19, x20, x21, x22, x23, x24, x25, x26, x27, x28, x29, x30, x31, x32, x33, x34, x35, x36, x37, x38, x39, x40, x41, x42, x43, x44, x45, x46, x47, x48, x49, x50, x51, x52, x53, x54, x55, x56, x57, x58, x59, x60, x61, x62, x63, x64, x65, x66, x67, x68, x69, x70, x71, x72, x73, x74, x75, x76, x77, x78, x79, x80, x81, x82, x83, x84, x85, x86, x87, x88, x89, x90, x91, x92, x93, x94, x95, x96, x97, x98, x99, x100, x101, x102, x103], defers := [] }
/-- What holds at each label: 0 broken, 1 begin, 2 down, 3 ended, 4 inside. -/
def JD (A : List Int) (bv : Value) (w0 : World) (R : Int × Tr) (n l : Nat) (a : Act) (W : World) : Prop := match l with
  | 0 => ∃ (e : Int) (sv inn pv qv : Value), R = (e, zT) ∧ FrD w0 bv sv inn pv qv (.int .i64 e) a ∧ Dm w0 W
  | 1 => ∃ (sv inn ev : Value) (p q : Nat) (L : List LvT) (M : Nat), FrD w0 bv sv inn (.int .i64 (p : Int)) (.int .i64 (q : Int)) ev a ∧ Dm w0 W ∧ Stk (w0.heap.size + 3) W sv L M ∧ p ≤ q ∧ WfD A q L ∧ CnW p L ∧ L.length ≤ 1024 ∧ R = begD A L p q ∧ 4 * (A.length - p) + 2 * L.length + 1 ≤ n
  | 2 => ∃ (sv inn ev qv : Value) (p s h : Nat) (L : List LvT) (M : Nat), FrD w0 bv sv inn (.int .i64 (p : Int)) qv ev a ∧ Dm w0 W ∧ Stk (w0.heap.size + 3) W sv L M ∧ W.rangeAt (w0.heap.size + 1) 0 [.bool true, .int .i64 (s : Int), .int .i64 (h : Int)] ∧ WfD A (p + h) L ∧ CnS p L ∧ L.length ≤ 1024 ∧ R = (if 1024 ≤ L.length then (74, zT) else insD A (p + h) [] L p) ∧ 4 * (A.length - p) + 2 * L.length + 4 ≤ n
  | 3 => ∃ (sv inn ev qv d q : Value) (p : Nat) (t : Tr) (L : List LvT) (M : Nat), FrD w0 bv sv inn (.int .i64 (p : Int)) qv ev a ∧ Dm w0 W ∧ Stk (w0.heap.size + 3) W sv L M ∧ W.rangeAt (w0.heap.size + 2) 0 [.bool t.l, d, q] ∧ Ot W t (fun j => M ≤ j ∧ sv.ownBlock ≠ some j) d q ∧ WfD A p L ∧ CnS p L ∧ L.length ≤ 1024 ∧ R = cntD A L p t ∧ 4 * (A.length - p) + 2 * L.length + 3 ≤ n
  | 4 => ∃ (sv inn ev qv v : Value) (p e : Nat) (ts : List Tr) (L : List LvT) (M : Nat), FrD w0 bv sv inn (.int .i64 (p : Int)) qv ev a ∧ Dm w0 W ∧ Stk (w0.heap.size + 3) W sv ((e, ts, v) :: L) M ∧ p ≤ e ∧ WfD A e L ∧ CnS p L ∧ ts.length ≤ p ∧ L.length + 1 ≤ 1024 ∧ R = insD A e ts L p ∧ 4 * (A.length - p) + 2 * (L.length + 1) + 2 ≤ n
  | _ => False
end Go.Proofs.Ytahekhamhdfkdaa

/- Layer 7: the document's item: what is refused, a text. -/
namespace Go.Proofs.Ytahekhamhdfkdaa
open Go.RowKit Go.Sort
end Go.Proofs.Ytahekhamhdfkdaa
