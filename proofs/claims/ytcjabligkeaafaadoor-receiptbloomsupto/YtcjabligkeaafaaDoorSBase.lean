import Derived.Test.YtcjabligkeaafaaDoorRows
import Derived.WalkKit
import Derived.WalkSpells
import Derived.WalkLawsBesides
import Derived.Laws.BitsAllLaws
import Derived.BigQuiet
import Derived.Lib.QuietBelow
import Derived.Deep.MidRow
import Derived.Deep.LoopGhost
import Derived.Deep.RegionHeld
import Derived.Deep.Upon
import Derived.OwnWalk
import Derived.Deep.OwnRows
import Derived.Laws.CopyOwn
import Derived.Maps.AppendAt
import Derived.Lib.LazyBuf
/- Bytes, rows of them in blocks, parts, what a call leaves alone. -/
namespace Go.Proofs.YtcjabligkeaafaaDoor.S
open Go.RowKit Go.Sort

theorem cell_keep {W w1 : World} {p : Addr} {v : Value} (hb : Below W.heap.size W w1) (h : W.cell? p = some v) : w1.cell? p = some v := by
  rw [hb.cell (World.block_lt_of_cell? W p h)]; exact h
theorem calls_world {P : Program} {f : FuncId} {args : Array Value} {w : World} {R : Ending → World → Prop} (S : World → Prop) (h : S w) (k : ∀ W, S W → Calls P f args W R) : Calls P f args w R := k w h
theorem wp_world {P : Program} {c : Code} {Q : Exit → Act → World → Prop} {a : Act} {w : World} (S : World → Prop) (h : S w) (k : ∀ W, S W → c.wp P Q a W) : c.wp P Q a w := k w h
/-- The first n cells of block b may be written. -/
def Loose (W : World) (b n : Nat) : Prop := ∀ i, i < n → W.frozen? ⟨b, i, none⟩ = false
theorem Loose.keep {W w1 : World} {b n : Nat} (h : Loose W b n) (hb : Below W.heap.size W w1) (hlt : b < W.heap.size) : Loose w1 b n := fun i hi => by rw [hb.frozen (p := ⟨b, i, none⟩) hlt]; exact h i hi
theorem Loose.drew {W : World} {b n : Nat} (h : Loose W b n) : Loose W.drew b n := h
theorem Loose.set {W : World} {b n : Nat} (h : Loose W b n) (p : Addr) (v : Value) : Loose (W.setCell p v) b n := fun i hi => by rw [World.frozen?_setCell]; exact h i hi
theorem Loose.setCells {W : World} {b n : Nat} (h : Loose W b n) (b' o : Nat) (cs : List Value) : Loose (W.setCells b' o cs) b n := fun i hi => by rw [World.frozen?_setCells]; exact h i hi
theorem Loose.new {W : World} {b : Nat} (cs : Array Value) (t : TypeId) (n : Nat) (e : b = W.heap.size) : Loose (W.alloc (.cells cs t)) b n := by
  subst e
  intro i _
  simp [go_sem]
/-- But for block b all is as it was. -/
structure Off (b : Nat) (w w' : World) : Prop where
  os : w'.os = w.os
  tape : w'.tape = w.tape
  output : w'.output = w.output
  size : w.heap.size ≤ w'.heap.size
  block : ∀ k, k < w.heap.size → k ≠ b → w'.heap[k]? = w.heap[k]?
theorem Off.of_below {b : Nat} {w w' : World} (h : Below w.heap.size w w') : Off b w w' := ⟨h.os, h.tape, h.output, h.size, fun k hk _ => h.block k hk⟩
theorem Off.trans {b : Nat} {w v u : World} (h : Off b w v) (k : Off b v u) : Off b w u :=
  ⟨k.os.trans h.os, k.tape.trans h.tape, k.output.trans h.output, Nat.le_trans h.size k.size, fun i hi hb => (k.block i (Nat.lt_of_lt_of_le hi h.size) hb).trans (h.block i hi hb)⟩
theorem Off.below {b B : Nat} {w w' : World} (h : Off b w w') (h1 : B ≤ w.heap.size) (h2 : B ≤ b) : Below B w w' := ⟨h.os, h.tape, h.output, h.size, fun k hk => h.block k (by omega) (by omega)⟩
theorem Off.refl (b : Nat) (w : World) : Off b w w := ⟨rfl, rfl, rfl, Nat.le_refl _, fun _ _ _ => rfl⟩
theorem Off.setCell {b i : Nat} {w w' : World} (h : Off b w w') (v : Value) : Off b w (w'.setCell ⟨b, i, none⟩ v) :=
  h.trans ⟨rfl, rfl, rfl, by simp [World.setCell], fun k _ hb => Below.heap_setCell _ _ _ _ (by simpa using hb)⟩
theorem Off.drew {b : Nat} {w w' : World} (h : Off b w w') : Off b w w'.drew := ⟨h.os, h.tape, h.output, h.size, h.block⟩
theorem Off.cell {b : Nat} {w w' : World} (h : Off b w w') {p : Addr} (hp : p.block ≠ b) {v : Value} (hv : w.cell? p = some v) : w'.cell? p = some v := by
  have lt := World.block_lt_of_cell? w p hv
  rw [World.cell?_of_block (h.block p.block lt hp)]; exact hv
theorem wpList_world {P : Program} {ops : Array Oper} {Q : Exit → Act → World → Prop} {rest : List Oper} {a : Act} {w : World} (S : World → Prop) (h : S w) (k : ∀ W, S W → wpList P ops Q rest a W) : wpList P ops Q rest a w := k w h
theorem Y_there : ∃ f : BitVec 8 → Int, ∀ x, f x = (x.toNat : Int) := ⟨_, fun _ => rfl⟩
/-- A byte as the program's number. -/
noncomputable def Y : BitVec 8 → Int := Classical.choose Y_there
theorem Y_eq (x : BitVec 8) : Y x = (x.toNat : Int) := Classical.choose_spec Y_there x
theorem Y_lo (x : BitVec 8) : 0 ≤ Y x := by rw [Y_eq]; omega
theorem Y_hi (x : BitVec 8) : Y x < 256 := by rw [Y_eq]; have := x.isLt; omega
theorem Y_inj {x y : BitVec 8} (h : Y x = Y y) : x = y := by rw [Y_eq, Y_eq] at h; exact BitVec.eq_of_toNat_eq (by omega)
theorem Y_or (x y : BitVec 8) : bits .or .u8 (Y x) (Y y) = Y (x ||| y) := by
  rw [Y_eq, Y_eq, Y_eq, u8_or_nat _ _ (by have := x.isLt; omega) (by have := y.isLt; omega), BitVec.toNat_or]
/-- A row of bytes as values. -/
noncomputable def byts (M : List (BitVec 8)) : List Value := M.map fun x => .int .u8 (Y x)
theorem byts_len (M : List (BitVec 8)) : (byts M).length = M.length := by simp [byts]
theorem one_byts (M : List (BitVec 8)) : (byts M).toArray.all (·.oneCell') = true := all_oneCell_toArray (by
  intro v hv
  obtain ⟨x, _, rfl⟩ := List.mem_map.1 hv
  rfl)
theorem Y_zero : Y 0 = 0 := by rw [Y_eq]; rfl
/-- Block b holds these 32 bytes and may be written. -/
def Hsh (W : World) (b : Nat) (M : List (BitVec 8)) : Prop := M.length = 32 ∧ (∀ i, i < 32 → W.cell? ⟨b, i, none⟩ = some (.int .u8 (Y (M.getD i 0)))) ∧ Loose W b 32
theorem Hsh.lt {W : World} {b : Nat} {M : List (BitVec 8)} (h : Hsh W b M) : b < W.heap.size := World.block_lt_of_cell? W ⟨b, 0, none⟩ (h.2.1 0 (by decide))
theorem Hsh.keep {W w1 : World} {b : Nat} {M : List (BitVec 8)} (h : Hsh W b M) (hb : Below W.heap.size W w1) : Hsh w1 b M := ⟨h.1, fun i hi => cell_keep hb (h.2.1 i hi), h.2.2.keep hb h.lt⟩
theorem Hsh.alloc {W : World} {b : Nat} {M : List (BitVec 8)} (h : Hsh W b M) (o : Obj) : Hsh (W.alloc o) b M := h.keep ((Below.refl _ _).alloc (Nat.le_refl _) o)
theorem Hsh.drew {W : World} {b : Nat} {M : List (BitVec 8)} (h : Hsh W b M) : Hsh W.drew b M := h
theorem Hsh.other {W : World} {b b' i : Nat} {M : List (BitVec 8)} (h : Hsh W b M) (ne : b' ≠ b) (v : Value) : Hsh (W.setCell ⟨b', i, none⟩ v) b M := ⟨h.1, fun j hj => by rw [World.cell?_setCell_far _ _ _ _ ne]; exact h.2.1 j hj, h.2.2.set _ _⟩
theorem Hsh.otherCells {W : World} {b b' o : Nat} {M : List (BitVec 8)} (h : Hsh W b M) (ne : b' ≠ b) (cs : List Value) : Hsh (W.setCells b' o cs) b M := ⟨h.1, fun j hj => by rw [World.cell?_setCells_out _ _ _ _ _ (fun e => absurd e.symm ne)]; exact h.2.1 j hj, h.2.2.setCells _ _ _⟩
theorem Hsh.set {W : World} {b : Nat} {M : List (BitVec 8)} (h : Hsh W b M) (i : Nat) (hi : i < 32) (v : BitVec 8) : Hsh (W.setCell ⟨b, i, none⟩ (.int .u8 (Y v))) b (M.set i v) := by
  refine ⟨by rw [List.length_set]; exact h.1, fun j hj => ?_, h.2.2.set _ _⟩
  by_cases e : i = j
  · subst e
    rw [World.cell?_setCell_same _ _ _ (h.2.1 i hi)]
    simp [List.getD, h.1, hi]
  · have ne : (⟨b, i, none⟩ : Addr) ≠ ⟨b, j, none⟩ := by first | (simp; done) | (simp; omega)
    rw [World.cell?_setCell_other _ _ _ _ ne, h.2.1 j hj]
    simp [List.getD, List.getElem?_set_ne e]
theorem Hsh.range {W : World} {b : Nat} {M : List (BitVec 8)} (h : Hsh W b M) : W.rangeAt b 0 (byts M) := by
  intro j v hv
  unfold byts at hv
  rw [List.getElem?_map] at hv
  obtain ⟨x, hx, rfl⟩ := Option.map_eq_some_iff.1 hv
  have hj : j < M.length := (List.getElem?_eq_some_iff.1 hx).1
  rw [Nat.zero_add, h.2.1 j (by rw [← h.1]; exact hj)]
  simp [List.getD, hx]
theorem Hsh.there {W : World} {b : Nat} {M : List (BitVec 8)} (h : Hsh W b M) : W.there b 0 32 := by
  intro j hj
  rw [Nat.zero_add]
  exact ⟨by rw [h.2.1 j hj]; rfl, h.2.2 j hj⟩
theorem Hsh.new {W : World} {b : Nat} {M : List (BitVec 8)} (hl : M.length = 32) (t : TypeId) (e : b = W.heap.size) : Hsh (W.alloc (.cells (byts M).toArray t)) b M := by
  refine ⟨hl, fun i hi => ?_, Loose.new _ _ _ e⟩
  subst e
  rw [World.cell?_alloc_mark]
  simp [byts, List.getD, show i < M.length by omega]
theorem Hsh.zeros {W : World} {b : Nat} (t : TypeId) (e : b = W.heap.size) : Hsh (W.alloc (.cells #[.int .u8 0, .int .u8 0, .int .u8 0, .int .u8 0, .int .u8 0, .int .u8 0, .int .u8 0, .int .u8 0, .int .u8 0, .int .u8 0, .int .u8 0, .int .u8 0, .int .u8 0, .int .u8 0, .int .u8 0, .int .u8 0, .int .u8 0, .int .u8 0, .int .u8 0, .int .u8 0, .int .u8 0, .int .u8 0, .int .u8 0, .int .u8 0, .int .u8 0, .int .u8 0, .int .u8 0, .int .u8 0, .int .u8 0, .int .u8 0, .int .u8 0, .int .u8 0] t)) b (List.replicate 32 0) := by
  have h : Y 0#8 = 0 := Y_zero
  have z : (byts (List.replicate 32 0)).toArray = #[.int .u8 0, .int .u8 0, .int .u8 0, .int .u8 0, .int .u8 0, .int .u8 0, .int .u8 0, .int .u8 0, .int .u8 0, .int .u8 0, .int .u8 0, .int .u8 0, .int .u8 0, .int .u8 0, .int .u8 0, .int .u8 0, .int .u8 0, .int .u8 0, .int .u8 0, .int .u8 0, .int .u8 0, .int .u8 0, .int .u8 0, .int .u8 0, .int .u8 0, .int .u8 0, .int .u8 0, .int .u8 0, .int .u8 0, .int .u8 0, .int .u8 0, .int .u8 0] := by simp [byts, List.replicate, h]
  rw [← z]
  exact Hsh.new (by simp) _ e
theorem Hsh.stored {W : World} {b : Nat} {M T : List (BitVec 8)} (h : Hsh W b T) (hl : M.length = 32) : Hsh (W.setCells b 0 (byts M)) b M := by
  refine ⟨hl, fun i hi => ?_, h.2.2.setCells _ _ _⟩
  have := World.rangeAt_setCells_same W b 0 (byts M) (by rw [byts_len, hl]; exact h.there) i (.int .u8 (Y (M.getD i 0))) (by simp [byts, List.getD, show i < M.length by omega])
  rwa [Nat.zero_add] at this
theorem take_snoc {X : List (BitVec 8)} {i : Nat} (h : i < X.length) : X.take (i + 1) = X.take i ++ [X.getD i 0] := by
  rw [List.take_add_one, List.getD, List.getElem?_eq_getElem h]
  rfl
/-- Block b holds these bytes from offset o on. -/
def Byo (W : World) (b o : Nat) (X : List (BitVec 8)) : Prop := ∀ i, i < X.length → W.cell? ⟨b, o + i, none⟩ = some (.int .u8 (Y (X.getD i 0)))
theorem Byo.keep {W w1 : World} {b o : Nat} {X : List (BitVec 8)} (h : Byo W b o X) (hb : Below W.heap.size W w1) : Byo w1 b o X := fun i hi => cell_keep hb (h i hi)
theorem Byo.off {b b' o : Nat} {w w' : World} {X : List (BitVec 8)} (h : Byo w b o X) (ho : Off b' w w') (ne : b ≠ b') : Byo w' b o X := fun i hi => ho.cell ne (h i hi)
theorem Byo.drop {W : World} {b o n : Nat} {X : List (BitVec 8)} (h : Byo W b o X) : Byo W b (o + n) (X.drop n) := fun i hi => by
  rw [List.length_drop] at hi
  have := h (n + i) (by omega)
  rw [show o + n + i = o + (n + i) by omega, this]
  simp [List.getD, List.getElem?_drop]
theorem Off.setCells {b o : Nat} {w w' : World} (h : Off b w w') (cs : List Value) : Off b w (w'.setCells b o cs) := by
  have := below_setCells (B := 0) (a := w') (Nat.zero_le b) cs o w' (Below.refl _ _)
  refine h.trans ⟨this.os, this.tape, this.output, this.size, fun k hk hb => World.heap_setCells_other _ _ _ _ hk hb⟩
/-- What a slice of bytes is: where there are any, it says where they lie. -/
def At (a : Option Addr) (b o : Nat) (X : List (BitVec 8)) : Prop := X = [] ∨ a = some ⟨b, o, none⟩
/-- A part of a text: a slice of bytes. -/
structure Part where
  a : Option Addr
  b : Nat
  o : Nat
  c : Nat
  X : List (BitVec 8)
def Part.none : Part := ⟨.none, 0, 0, 0, []⟩
def Part.val (p : Part) : Value := .slice p.a p.X.length p.c
def Part.ok (W : World) (p : Part) : Prop := At p.a p.b p.o p.X ∧ p.X.length ≤ p.c ∧ Byo W p.b p.o p.X
/-- Block b holds these slices from offset o on. -/
def Prts (W : World) (b o : Nat) (PS : List Part) : Prop := ∀ i, i < PS.length → W.cell? ⟨b, o + i, none⟩ = some (PS.getD i .none).val ∧ (PS.getD i .none).ok W
def catX (PS : List Part) : List (BitVec 8) := PS.flatMap (·.X)
theorem catX_next {PS : List Part} {i : Nat} (h : i < PS.length) : catX (PS.take (i + 1)) = catX (PS.take i) ++ (PS.getD i .none).X := by
  rw [List.take_add_one, catX, List.flatMap_append, List.getD, List.getElem?_eq_getElem h]
  simp [catX]
theorem catX_le {PS : List Part} (i : Nat) : (catX (PS.take i)).length ≤ (catX PS).length := by
  have h : catX PS = catX (PS.take i) ++ catX (PS.drop i) := by
    rw [catX, catX, catX, ← List.flatMap_append, List.take_append_drop]
  rw [h, List.length_append]
  omega
theorem Hsh.off {w w' : World} {a b : Nat} {M : List (BitVec 8)} (h : Hsh w a M) (o : Off b w w') (ne : a ≠ b) : Hsh w' a M :=
  ⟨h.1, fun i hi => o.cell ne (h.2.1 i hi), fun i hi => by rw [World.frozen?_of_block (o.block a h.lt ne)]; exact h.2.2 i hi⟩
theorem heap_new (w : World) (o : Obj) : (w.alloc o).heap[w.heap.size]? = some o := by
  show (w.heap.push o)[w.heap.size]? = some o
  simp
/-- Are two rows of byts the same, from s on, m of them? -/
def sameFrom8 (X Zs : List (BitVec 8)) : Nat → Nat → Bool
  | _, 0 => true
  | s, m + 1 => X.getD s 0 == Zs.getD s 0 && sameFrom8 X Zs (s + 1) m
theorem part_byte {X : List (BitVec 8)} {i : Nat} (h : i < X.length) (w : World) : (part 5 (byts X).toArray (i * 1)).run Tryd.prog w = .ok (.int .u8 (Y (X.getD i 0))) w := by
  have ta := Tryd.isAgg5
  have g : (byts X)[i]? = some (.int .u8 (Y (X.getD i 0))) := by simp [byts, List.getD, h]
  simp [Go.part, go_sem, ta, g]
theorem eq_loop8 {X Zs : List (BitVec 8)} (w : World) : ∀ (m s : Nat), s + m ≤ X.length → s + m ≤ Zs.length →
    (forIn (m := Sem) (List.range' s m) ((none : Option Bool), ()) fun i _ => do
      let x ← part 5 (byts X).toArray (i * 1)
      let y ← part 5 (byts Zs).toArray (i * 1)
      let b ← Op.equalIn 9999 5 x y
      if (!b) = true then pure (ForInStep.done (some false, ())) else pure (ForInStep.yield (none, ()))).run Tryd.prog w = .ok (if sameFrom8 X Zs s m = true then (none, ()) else (some false, ())) w
  | 0, s, _, _ => by simp [sameFrom8]
  | m + 1, s, h1, h2 => by
    have tu := Tryd.underlying5
    rw [List.range'_succ, List.forIn_cons]
    simp only [Sem.run_bind, part_byte (show s < X.length by omega), part_byte (show s < Zs.length by omega), Result.andThen_ok]
    rw [show (9999 : Nat) = 9998 + 1 from rfl, run_equalIn_int _ _ _ _ _ _ _ tu]
    simp only [Result.andThen_ok]
    rw [sameFrom8]
    have ih := eq_loop8 (X := X) (Zs := Zs) w m (s + 1) (by omega) (by omega)
    generalize X.getD s 0 = a at *
    generalize Zs.getD s 0 = b at *
    by_cases e : a = b
    · subst e
      simp only [beq_self_eq_true, Bool.not_true, Bool.false_eq_true, if_false, Sem.run_pure, Result.andThen_ok, Bool.true_and]
      exact ih
    · have ne : (Y a == Y b) = false := beq_eq_false_iff_ne.2 fun h => e (Y_inj h)
      have ne2 : (a == b) = false := beq_eq_false_iff_ne.2 e
      simp only [ne, ne2, Bool.not_false, if_true, Sem.run_pure, Result.andThen_ok, Bool.false_and, Bool.false_eq_true, if_false]
theorem sameFrom8_iff {X Zs : List (BitVec 8)} : ∀ (m s : Nat), sameFrom8 X Zs s m = true ↔ ∀ i, s ≤ i → i < s + m → X.getD i 0 = Zs.getD i 0
  | 0, s => by simp [sameFrom8]; intro i h1 h2; omega
  | m + 1, s => by
    rw [sameFrom8, Bool.and_eq_true, sameFrom8_iff m (s + 1)]
    constructor
    · rintro ⟨h1, h2⟩ i h3 h4
      by_cases e : i = s
      · subst e; exact eq_of_beq h1
      · exact h2 i (by omega) (by omega)
    · intro h
      exact ⟨by rw [h s (Nat.le_refl _) (by omega)]; exact beq_self_eq_true _, fun i h1 h2 => h i (by omega) (by omega)⟩
theorem same8_iff {X Zs : List (BitVec 8)} {n : Nat} (hx : X.length = n) (hy : Zs.length = n) : sameFrom8 X Zs 0 n = decide (X = Zs) := by
  have h := sameFrom8_iff (X := X) (Zs := Zs) n 0
  by_cases e : X = Zs
  · subst e
    rw [decide_eq_true rfl]
    exact h.2 fun _ _ _ => rfl
  · rw [decide_eq_false e]
    apply Bool.eq_false_iff.2
    intro ht
    apply e
    apply List.ext_getElem (by rw [hx, hy])
    intro i h1 h2
    have := h.1 ht i (Nat.zero_le _) (by omega)
    rw [List.getD, List.getElem?_eq_getElem h1, List.getD, List.getElem?_eq_getElem h2] at this
    simpa using this
theorem quiet_load_mid {P : Program} {C : World → Prop} {a : Act} {o : Oper} {K : Act → Prop} (ty : TypeId) (x : Operand) (ho : o.op = .load ty x)
    (b f : Nat) (hx : a.eval x = .pointer (some ⟨b, f, none⟩)) (cs : List Value) (d : TypeDesc) (hS : ∀ w, C w → w.rangeAt b f cs)
    (hu : P.underlying ty = some d) (hd : d.isRow = true) (hi : (P.info? ty).map (·.size) = some cs.length) (h : K (a.put o.dst (.agg cs.toArray))) : o.quiet P a C K :=
  ⟨.agg cs.toArray, fun w hw => by
    unfold Oper.quietAt execOp
    simp only [ho, hx, Instr.loadAt, Instr.sureAddr, Sem.run_bind, Sem.run_pure, Result.andThen_ok, run_loadVar_mid w b f ty cs d (hS w hw) hu hd hi]
    exact ⟨rfl, rfl⟩, h⟩
end Go.Proofs.YtcjabligkeaafaaDoor.S
