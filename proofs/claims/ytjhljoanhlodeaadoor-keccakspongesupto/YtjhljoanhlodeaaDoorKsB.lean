import Derived.Test.YtjhljoanhlodeaaDoorKsA
import Derived.Test.YtjhljoanhlodeaaDoorKRSums
import Derived.Test.YtjhljoanhlodeaaDoorKStill
/- Layer 2: the document's sponge. -/
namespace Go.Proofs.YtjhljoanhlodeaaDoor
open Go.RowKit Go.Sort
/-- What is kept but for the blocks of S. -/
structure Chg (S : Nat → Prop) (w w' : World) : Prop where
  os : w'.os = w.os
  tape : w'.tape = w.tape
  output : w'.output = w.output
  size : w.heap.size ≤ w'.heap.size
  block : ∀ k, k < w.heap.size → ¬ S k → w'.heap[k]? = w.heap[k]?
theorem Chg.refl (S : Nat → Prop) (w : World) : Chg S w w := ⟨rfl, rfl, rfl, Nat.le_refl _, fun _ _ _ => rfl⟩
theorem Chg.trans {S T : Nat → Prop} {w w1 w2 : World} (h : Chg S w w1) (k : Chg T w1 w2) (hT : ∀ j, T j → S j ∨ w.heap.size ≤ j) : Chg S w w2 :=
  ⟨k.os.trans h.os, k.tape.trans h.tape, k.output.trans h.output, Nat.le_trans h.size k.size, fun j hj hn => (k.block j (Nat.lt_of_lt_of_le hj h.size) (fun t => by
    rcases hT j t with s | s
    · exact hn s
    · omega)).trans (h.block j hj hn)⟩
theorem Chg.of_below {S : Nat → Prop} {w w' : World} (h : Below w.heap.size w w') : Chg S w w' := ⟨h.os, h.tape, h.output, h.size, fun k hk _ => h.block k hk⟩
theorem Chg.of_off {b : Nat} {w w' : World} (h : Off b w w') : Chg (fun k => k = b) w w' := ⟨h.os, h.tape, h.output, h.size, fun k hk hn => h.block k hk hn⟩
theorem Chg.of_grown {row : Option Nat} {w w' : World} (h : w.grownBy w' row) : Chg (fun k => row = some k) w w' := ⟨h.os, h.tape, h.output, h.size, fun k hk hn => h.block k hk (fun e => hn e.symm)⟩
theorem Chg.mono {S T : Nat → Prop} {w w' : World} (h : Chg S w w') (hS : ∀ k, S k → T k) : Chg T w w' := ⟨h.os, h.tape, h.output, h.size, fun k hk hn => h.block k hk (fun s => hn (hS k s))⟩
theorem Chg.below {S : Nat → Prop} {B : Nat} {w w' : World} (h : Chg S w w') (hB : B ≤ w.heap.size) (hS : ∀ k, S k → B ≤ k) : Below B w w' := ⟨h.os, h.tape, h.output, h.size, fun k hk => h.block k (by omega) (fun s => by have := hS k s; omega)⟩
theorem run_append_rk {B : Nat} {w : World} {v : Value} {a : Option Addr} {g p c : Nat} {P Q : List (BitVec 8)} {ty : TypeId} (h : Own B w v P) (ha : At a g p Q) (hnc : a = none → c = 0) (hz : Byo w g p Q) (hl : P.length + Q.length < 1073741824) (hB : B ≤ w.heap.size) :
    ∃ v' w', (Builtin.append_ #[30, 30] ty #[v, .slice a Q.length c]).run Tryd.prog w = .ok v' w' ∧ Own B w' v' (P ++ Q) ∧ w.grownBy w' v.ownBlock ∧ (v'.ownBlock = v.ownBlock ∨ v'.ownBlock = some w.heap.size) := by
  obtain ⟨i0, hi, hz0, hz1, hz2⟩ := info_parts info_byte
  have eo : ∀ {w' : World} {v' : Value}, w'.ownsRow B 5 1 v' (P.length + Q.length) (byts P ++ byts Q) → Own B w' v' (P ++ Q) := fun {w'} {v'} h => by
    rw [Own, List.length_append, show byts (P ++ Q) = byts P ++ byts Q from List.map_append]; exact h
  by_cases q0 : Q = []
  · subst q0
    cases a with
    | none =>
      obtain rfl := hnc rfl
      exact ⟨v, w, run_append_owned_none (P := Tryd.prog) w B 30 ty 5 i0 1 Tryd.underlying30 hi v P.length _ h, by rw [List.append_nil]; exact h, World.grownBy.refl _ _, .inl rfl⟩
    | some ad =>
      obtain ⟨v', w', hr, h2, h3, _, h5⟩ := run_append_own_at (P := Tryd.prog) w B 30 ty 5 i0 (.int .u8 0) 1 1 Tryd.underlying30 hi hz0 hz1 hz2 rfl (by decide) v P.length _ h ad 0 c [] rfl (fun j u hu => by simp at hu) (fun u hu => by cases hu) (by unfold maxLen; simp at hl; omega) (by simp at hl; omega) hB
      exact ⟨v', w', hr, eo h2, h3, h5⟩
  · obtain rfl : a = some ⟨g, p, none⟩ := ha.resolve_left q0
    obtain ⟨v', w', hr, h2, h3, _, h5⟩ := run_append_own_at (P := Tryd.prog) w B 30 ty 5 i0 (.int .u8 0) 1 1 Tryd.underlying30 hi hz0 hz1 hz2 rfl (by decide) v P.length _ h ⟨g, p, none⟩ Q.length c (byts Q) (by rw [byts_len, Nat.mul_one]) (fun j u hu => by
      unfold byts at hu
      rw [List.getElem?_map] at hu
      obtain ⟨x, hx, rfl⟩ := Option.map_eq_some_iff.1 hu
      have hj : j < Q.length := (List.getElem?_eq_some_iff.1 hx).1
      rw [Addr.add_mid, hz j hj]
      simp [List.getD, hx]) (fun u hu => by obtain ⟨y, _, rfl⟩ := List.mem_map.1 hu; rfl) (by unfold maxLen; omega) (by omega) hB
    exact ⟨v', w', hr, eo h2, h3, h5⟩
theorem wpList_append_rk {ops : Array Oper} {rest : List Oper} {o : Oper} {a : Act} {Q : Exit → Act → World → Prop} {w : World} {B : Nat} {v : Value} {sa : Option Addr} {g p c n : Nat} {P1 Q1 : List (BitVec 8)} (hgd : o.guard = none) (s t : Operand)
    (ho : o.op = .call { callee := .builtin .append, args := #[s, t], argTypes := #[30, 30] }) (hs : a.eval s = v) (hx : a.eval t = .slice sa n c) (hn : n = Q1.length)
    (h : Own B w v P1) (ha : At sa g p Q1) (hnc : sa = none → c = 0) (hz : Byo w g p Q1) (hl : P1.length + Q1.length < 1073741824) (hB : B ≤ w.heap.size)
    (hK : ∀ a' c' w', Own B w' (.slice a' (P1 ++ Q1).length c') (P1 ++ Q1) → w.grownBy w' v.ownBlock → (Value.ownBlock (.slice a' (P1 ++ Q1).length c') = v.ownBlock ∨ Value.ownBlock (.slice a' (P1 ++ Q1).length c') = some w.heap.size) → wpList Tryd.prog ops Q rest (a.put o.dst (.slice a' (P1 ++ Q1).length c')) w') :
    wpList Tryd.prog ops Q (o :: rest) a w := by
  subst hn
  refine wpList_plain hgd fun K hK2 => ?_
  obtain ⟨v', w', hr, h2, h3, h4⟩ := run_append_rk (ty := o.type) (c := c) h ha hnc hz hl hB
  obtain ⟨a', g', c', rfl, _⟩ := own_arg h2
  unfold Oper.wp execOp
  simp only [ho, resolve, invoke, builtin, Sem.run_bind, Sem.run_pure, Result.andThen_ok, List.map_toArray, List.map_cons, List.map_nil, hs, hx, hr]
  exact hK2 _ _ (hK a' c' w' h2 h3 h4)
/-- The document's sponge in a block: its kind, the list of all its bytes. -/
structure Dp (W : World) (B bd : Nat) (k : Int) (v : Value) (X : List (BitVec 8)) : Prop where
  kind : W.cell? ⟨bd, 0, none⟩ = some (.int .i64 k)
  all : W.cell? ⟨bd, 1, none⟩ = some v
  f0 : W.frozen? ⟨bd, 0, none⟩ = false
  f1 : W.frozen? ⟨bd, 1, none⟩ = false
  own : Own B W v X
  ne : v.ownBlock ≠ some bd
theorem Dp.lt {W : World} {B bd : Nat} {k : Int} {v : Value} {X : List (BitVec 8)} (h : Dp W B bd k v X) : bd < W.heap.size := World.block_lt_of_cell? W ⟨bd, 0, none⟩ h.kind
theorem Dp.same {W W' : World} {B bd : Nat} {k : Int} {v : Value} {X : List (BitVec 8)} (h : Dp W B bd k v X) (e : W'.heap[bd]? = W.heap[bd]?) (hs : ∀ j, v.ownBlock = some j → W'.heap[j]? = W.heap[j]?) : Dp W' B bd k v X where
  kind := by rw [World.cell?_of_block (w := W) (a := ⟨bd, 0, none⟩) e]; exact h.kind
  all := by rw [World.cell?_of_block (w := W) (a := ⟨bd, 1, none⟩) e]; exact h.all
  f0 := by have := h.f0; simp only [World.frozen?, e] at this ⊢; exact this
  f1 := by have := h.f1; simp only [World.frozen?, e] at this ⊢; exact this
  own := own_same h.own hs
  ne := h.ne
theorem Dp.new {W : World} {B : Nat} {k : Int} {v : Value} {X : List (BitVec 8)} (t : TypeId) (h : Own B W v X) : Dp (W.alloc (.cells #[.int .i64 k, v] t)) B W.heap.size k v X where
  kind := by rw [World.cell?_alloc_mark]; rfl
  all := by rw [World.cell?_alloc_mark]; rfl
  f0 := by simp
  f1 := by simp
  own := own_same h (fun j hj => by have := (h.row.lt j hj).2; exact heap_alloc_old W _ this)
  ne := fun e => by have := (h.row.lt _ e).2; omega
theorem setCell_other {W : World} {b i k : Nat} {v : Value} (ne : k ≠ b) (lt : k < W.heap.size) : (W.setCell ⟨b, i, none⟩ v).heap[k]? = W.heap[k]? := ((Off.refl b W).setCell v).block k lt ne
set_option maxRecDepth 100000 in
set_option maxHeartbeats 4000000 in
theorem rwrite_any {a : Option Addr} {g p c B bd : Nat} {k : Int} {v : Value} {X Z : List (BitVec 8)} (hl : X.length + Z.length < 1073741824) (ha : At a g p Z) (hnc : a = none → c = 0) (w : World) (hB : B ≤ w.heap.size) (h : Dp w B bd k v X) (hZ : Byo w g p Z) :
    Calls Tryd.prog 15 #[.pointer (some ⟨bd, 0, none⟩), .slice a Z.length c] w fun e w' => e = .returned (.tuple #[]) ∧ ∃ v', Dp w' B bd k v' (X ++ Z) ∧ Chg (fun j => j = bd ∨ v.ownBlock = some j) w w' ∧ (v'.ownBlock = v.ownBlock ∨ v'.ownBlock = some w.heap.size) := by
  obtain ⟨m, em⟩ : ∃ m, Hid (m = Z.length) := ⟨_, rfl⟩
  have HD : Hid (Dp w B bd k v X) := h
  have c1 := h.all
  obtain ⟨av, gv, cv, rfl, _, _⟩ := own_arg h.own
  generalize hvn : X.length = xn at c1
  have EN : Hid (X.length = xn) := hvn
  rw [← em.out]
  have nev : Hid (Value.ownBlock (.slice av X.length cv) ≠ some bd) := h.ne
  have RES : Hid (∀ a' c' w3, Own B w3 (.slice a' (X ++ Z).length c') (X ++ Z) → w.grownBy w3 (Value.ownBlock (.slice av X.length cv)) → (Value.ownBlock (.slice a' (X ++ Z).length c') = Value.ownBlock (.slice av X.length cv) ∨ Value.ownBlock (.slice a' (X ++ Z).length c') = some w.heap.size) →
      w3.cell? ⟨bd, 1, none⟩ = some (.slice av X.length cv) ∧ w3.frozen? ⟨bd, 1, none⟩ = false ∧ Dp (w3.setCell ⟨bd, 1, none⟩ (.slice a' (X ++ Z).length c')) B bd k (.slice a' (X ++ Z).length c') (X ++ Z) ∧ Chg (fun j => j = bd ∨ Value.ownBlock (.slice av X.length cv) = some j) w (w3.setCell ⟨bd, 1, none⟩ (.slice a' (X ++ Z).length c'))) := by
    intro a' c' w3 ho hg hb
    have e3 : w3.heap[bd]? = w.heap[bd]? := hg.block bd HD.out.lt (fun e => nev.out e.symm)
    have k3 : w3.cell? ⟨bd, 0, none⟩ = some (.int .i64 k) := by rw [World.cell?_of_block (w := w) (a := ⟨bd, 0, none⟩) e3]; exact HD.out.kind
    have a3 : w3.cell? ⟨bd, 1, none⟩ = some (.slice av X.length cv) := by rw [World.cell?_of_block (w := w) (a := ⟨bd, 1, none⟩) e3]; exact HD.out.all
    have f30 : w3.frozen? ⟨bd, 0, none⟩ = false := by have := HD.out.f0; simp only [World.frozen?, e3] at this ⊢; exact this
    have f31 : w3.frozen? ⟨bd, 1, none⟩ = false := by have := HD.out.f1; simp only [World.frozen?, e3] at this ⊢; exact this
    have nb : Value.ownBlock (.slice a' (X ++ Z).length c') ≠ some bd := by
      rcases hb with e | e
      · rw [e]; exact nev.out
      · rw [e]; intro x; have := Option.some.inj x; have := HD.out.lt; omega
    refine ⟨a3, f31, ⟨?_, ?_, ?_, ?_, ?_, nb⟩, ?_⟩
    · rw [World.cell?_setCell_other _ _ _ _ (fun x => by cases x)]; exact k3
    · exact World.cell?_setCell_same' _ _ _ (by rw [a3]; rfl)
    · rw [World.frozen?_setCell]; exact f30
    · rw [World.frozen?_setCell]; exact f31
    · exact own_same ho (fun j hj => setCell_other (fun e => nb (by rw [← e]; exact hj)) (ho.row.lt j hj).2)
    · exact ((Chg.of_grown hg).mono (fun j hj => .inr hj)).trans (Chg.of_off ((Off.refl bd w3).setCell _)) (fun j hj => .inl (.inl hj))
  have HA : Hid (At a g p Z ∧ (a = none → c = 0) ∧ Byo w g p Z ∧ X.length + Z.length < 1073741824 ∧ B ≤ w.heap.size) := ⟨ha, hnc, hZ, hl, hB⟩
  clear ha hnc hZ hl hB h hvn
  rw [EN.out] at RES
  have OX : Hid (Own B w (.slice av xn cv) X) := by have := HD.out.own; rw [EN.out] at this; exact this
  go_enter Tryd.func15, Tryd.ntmps15
  go_wp2_with (at_builtin; refine wpList_append_rk rfl _ _ rfl rfl rfl em.out OX.out HA.out.1 HA.out.2.1 HA.out.2.2.1 HA.out.2.2.2.1 HA.out.2.2.2.2 ?_; intro a' c' w3 ho hg hb; obtain ⟨a3, f3, dp3, ch3⟩ := RES.out a' c' w3 ho hg hb; generalize (X ++ Z).length = zn at *)
  simp [bodyPost, results, Tryd.results15, go_sem]
  exact ⟨_, dp3, ch3, hb⟩
end Go.Proofs.YtjhljoanhlodeaaDoor
