import Derived.Test.YtcjabligkeaafaaDoorRows
import Derived.WalkKit
import Derived.WalkSpells
import Derived.WalkLawsBesides
import Derived.Laws.BitsAllLaws
import Derived.BigQuiet
import Derived.Lib.QuietBelow
import Derived.Deep.MidRow
import Derived.Deep.LoopGhost
import Derived.Deep.RegionHeld
/- Lanes: words of 64 bits; rows of them in blocks; what a call leaves alone. -/
namespace Go.Proofs.YtcjabligkeaafaaDoor.K
open Go.RowKit

theorem V_there : ∃ f : BitVec 64 → Int, ∀ x, f x = (x.toNat : Int) := ⟨_, fun _ => rfl⟩
/-- A lane as the program's number: under a name that the walk cannot open. -/
noncomputable def V : BitVec 64 → Int := Classical.choose V_there
theorem V_eq (x : BitVec 64) : V x = (x.toNat : Int) := Classical.choose_spec V_there x
theorem V_lo (x : BitVec 64) : 0 ≤ V x := by rw [V_eq]; omega
theorem V_hi (x : BitVec 64) : V x < 18446744073709551616 := by rw [V_eq]; have := x.isLt; omega
theorem V_xor (x y : BitVec 64) : bits .xor .u64 (V x) (V y) = V (x ^^^ y) := by
  rw [V_eq, V_eq, V_eq, u64_xor_nat _ _ (by have := x.isLt; omega) (by have := y.isLt; omega), BitVec.toNat_xor]
theorem V_and (x y : BitVec 64) : bits .and .u64 (V x) (V y) = V (x &&& y) := by
  rw [V_eq, V_eq, V_eq, u64_and_nat _ _ (by have := x.isLt; omega) (by have := y.isLt; omega), BitVec.toNat_and]
theorem V_max : IntKind.u64.max = V (BitVec.allOnes 64)  := by rw [V_eq]; decide
theorem V_not (x : BitVec 64) : bits .xor .u64 IntKind.u64.max (V x) = V (~~~x) := by
  rw [V_max, V_xor, BitVec.allOnes_xor]
theorem V_not' (x : BitVec 64) : bits .xor .u64 18446744073709551615 (V x) = V (~~~x) := V_not x
theorem V_rot (x : BitVec 64) {n : Nat} (h : n < 64) : bits .or .u64 (IntKind.u64.wrap (V x * 2 ^ n)) (V x / 2 ^ (64 - n)) = V (x.rotateLeft n) := by
  have hx := x.isLt
  have e1 : IntKind.u64.wrap (V x * 2 ^ n) = (((x.toNat * 2 ^ n) % 2 ^ 64 : Nat) : Int) := by
    rw [IntKind.wrap_u64, V_eq]
    simp
  have e2 : V x / 2 ^ (64 - n) = ((x.toNat / 2 ^ (64 - n) : Nat) : Int) := by rw [V_eq]; simp
  have b2 : x.toNat / 2 ^ (64 - n) < 18446744073709551616 := Nat.lt_of_le_of_lt (Nat.div_le_self _ _) (by omega)
  rw [e1, e2, u64_or_nat _ _ (by omega) b2]
  rw [V_eq, BitVec.rotateLeft_def, Nat.mod_eq_of_lt h, BitVec.toNat_or, BitVec.toNat_shiftLeft, BitVec.toNat_ushiftRight, Nat.shiftLeft_eq, Nat.shiftRight_eq_div_pow]

/-- The first n cells of block b may be written. -/
def Loose (W : World) (b n : Nat) : Prop := ∀ i, i < n → W.frozen? ⟨b, i, none⟩ = false
/-- A row of lanes as values. -/
noncomputable def lanes (L : List (BitVec 64)) : List Value := L.map fun x => .int .u64 (V x)
theorem lanes_len (L : List (BitVec 64)) : (lanes L).length = L.length := by simp [lanes]
/-- Block b holds these lanes, from its first cell on. -/
def Lns (W : World) (b : Nat) (L : List (BitVec 64)) : Prop := ∀ i, i < L.length → W.cell? ⟨b, i, none⟩ = some (.int .u64 (V (L.getD i 0)))

theorem cell_keep {W w1 : World} {p : Addr} {v : Value} (hb : Below W.heap.size W w1) (h : W.cell? p = some v) : w1.cell? p = some v := by
  rw [hb.cell (World.block_lt_of_cell? W p h)]; exact h
theorem calls_world {P : Program} {f : FuncId} {args : Array Value} {w : World} {R : Ending → World → Prop} (S : World → Prop) (h : S w) (k : ∀ W, S W → Calls P f args W R) : Calls P f args w R := k w h
theorem wp_world {P : Program} {c : Code} {Q : Exit → Act → World → Prop} {a : Act} {w : World} (S : World → Prop) (h : S w) (k : ∀ W, S W → c.wp P Q a W) : c.wp P Q a w := k w h

theorem Lns.lt {W : World} {b : Nat} {L : List (BitVec 64)} (h : Lns W b L) (hl : 0 < L.length) : b < W.heap.size := World.block_lt_of_cell? W ⟨b, 0, none⟩ (h 0 hl)
theorem Lns.keep {W w1 : World} {b : Nat} {L : List (BitVec 64)} (h : Lns W b L) (hb : Below W.heap.size W w1) : Lns w1 b L := fun i hi => cell_keep hb (h i hi)
theorem Lns.drew {W : World} {b : Nat} {L : List (BitVec 64)} (h : Lns W b L) : Lns W.drew b L := h
theorem Lns.new {W : World} {b : Nat} (L : List (BitVec 64)) (t : TypeId) (e : b = W.heap.size) : Lns (W.alloc (.cells (lanes L).toArray t)) b L := by
  subst e
  intro i hi
  rw [World.cell?_alloc_mark]
  simp [lanes, List.getElem?_map, List.getD, List.getElem?_eq_getElem hi]
theorem Lns.set {W : World} {b : Nat} {L : List (BitVec 64)} (h : Lns W b L) (i : Nat) (hi : i < L.length) (v : BitVec 64) : Lns (W.setCell ⟨b, i, none⟩ (.int .u64 (V v))) b (L.set i v) := by
  intro j hj
  simp at hj
  by_cases e : i = j
  · subst e
    rw [World.cell?_setCell_same _ _ _ (h i hi)]
    simp [List.getD, hi]
  · have ne : (⟨b, i, none⟩ : Addr) ≠ ⟨b, j, none⟩ := by first | (simp; done) | (simp; omega)
    rw [World.cell?_setCell_other _ _ _ _ ne, h j hj]
    simp [List.getD, List.getElem?_set_ne e]
theorem Lns.other {W : World} {b b' i : Nat} {L : List (BitVec 64)} (h : Lns W b L) (ne : b' ≠ b) (v : Value) : Lns (W.setCell ⟨b', i, none⟩ v) b L := fun j hj => by rw [World.cell?_setCell_far _ _ _ _ ne]; exact h j hj
theorem Lns.range {W : World} {b : Nat} {L : List (BitVec 64)} (h : Lns W b L) : W.rangeAt b 0 (lanes L) := by
  intro j v hv
  unfold lanes at hv
  rw [List.getElem?_map] at hv
  obtain ⟨x, hx, rfl⟩ := Option.map_eq_some_iff.1 hv
  have hj : j < L.length := (List.getElem?_eq_some_iff.1 hx).1
  rw [Nat.zero_add, h j hj]
  simp [List.getD, hx]
theorem Lns.of_range {W : World} {b : Nat} {L : List (BitVec 64)} (h : W.rangeAt b 0 (lanes L)) : Lns W b L := by
  intro j hj
  have := h j (.int .u64 (V (L.getD j 0))) (by simp [lanes, List.getD, hj])
  rwa [Nat.zero_add] at this
theorem there_of {W : World} {b n : Nat} {L : List (BitVec 64)} (h : Lns W b L) (f : Loose W b n) (e : L.length = n) : W.there b 0 n := by
  subst e
  intro j hj
  rw [Nat.zero_add]
  exact ⟨by rw [h j hj]; rfl, f j hj⟩
theorem Loose.keep {W w1 : World} {b n : Nat} (h : Loose W b n) (hb : Below W.heap.size W w1) (hlt : b < W.heap.size) : Loose w1 b n := fun i hi => by rw [hb.frozen (p := ⟨b, i, none⟩) hlt]; exact h i hi
theorem Loose.drew {W : World} {b n : Nat} (h : Loose W b n) : Loose W.drew b n := h
theorem Loose.set {W : World} {b n : Nat} (h : Loose W b n) (p : Addr) (v : Value) : Loose (W.setCell p v) b n := fun i hi => by rw [World.frozen?_setCell]; exact h i hi
theorem Loose.setCells {W : World} {b n : Nat} (h : Loose W b n) (b' o : Nat) (cs : List Value) : Loose (W.setCells b' o cs) b n := fun i hi => by rw [World.frozen?_setCells]; exact h i hi
theorem Loose.new {W : World} {b : Nat} (cs : Array Value) (t : TypeId) (n : Nat) (e : b = W.heap.size) : Loose (W.alloc (.cells cs t)) b n := by
  subst e
  intro i _
  simp [go_sem]
theorem one_lanes (L : List (BitVec 64)) : (lanes L).toArray.all (·.oneCell') = true := all_oneCell_toArray (by
  intro v hv
  obtain ⟨x, _, rfl⟩ := List.mem_map.1 hv
  rfl)
theorem Lns.stored {W : World} {b : Nat} {L : List (BitVec 64)} (h : W.there b 0 L.length) : Lns (W.setCells b 0 (lanes L)) b L :=
  Lns.of_range (World.rangeAt_setCells_same _ _ _ _ (by rw [lanes_len]; exact h))
/-- But for block b all is as it was. -/
structure Off (b : Nat) (w w' : World) : Prop where
  os : w'.os = w.os
  tape : w'.tape = w.tape
  output : w'.output = w.output
  size : w.heap.size ≤ w'.heap.size
  block : ∀ k, k < w.heap.size → k ≠ b → w'.heap[k]? = w.heap[k]?
theorem Off.of_below {b : Nat} {w w' : World} (h : Below w.heap.size w w') : Off b w w' := ⟨h.os, h.tape, h.output, h.size, fun k hk _ => h.block k hk⟩
theorem Off.trans {b : Nat} {w v u : World} (h : Off b w v) (k : Off b v u) : Off b w u :=
  ⟨k.os.trans h.os, k.tape.trans h.tape, k.output.trans h.output, Nat.le_trans h.size k.size, fun i hi hb => (k.block i (Nat.lt_of_lt_of_le hi h.size) hb).trans (h.block i hi hb)⟩
theorem Off.below {b B : Nat} {w w' : World} (h : Off b w w') (h1 : B ≤ w.heap.size) (h2 : B ≤ b) : Below B w w' := ⟨h.os, h.tape, h.output, h.size, fun k hk => h.block k (by omega) (by omega)⟩
theorem Off.refl (b : Nat) (w : World) : Off b w w := ⟨rfl, rfl, rfl, Nat.le_refl _, fun _ _ _ => rfl⟩
theorem Off.setCell {b i : Nat} {w w' : World} (h : Off b w w') (v : Value) : Off b w (w'.setCell ⟨b, i, none⟩ v) :=
  h.trans ⟨rfl, rfl, rfl, by simp [World.setCell], fun k _ hb => Below.heap_setCell _ _ _ _ (by simpa using hb)⟩
theorem Off.drew {b : Nat} {w w' : World} (h : Off b w w') : Off b w w'.drew := ⟨h.os, h.tape, h.output, h.size, h.block⟩
theorem Off.cell {b : Nat} {w w' : World} (h : Off b w w') {p : Addr} (hp : p.block ≠ b) {v : Value} (hv : w.cell? p = some v) : w'.cell? p = some v := by
  have lt := World.block_lt_of_cell? w p hv
  rw [World.cell?_of_block (h.block p.block lt hp)]; exact hv
theorem Off.lns {b a : Nat} {w w' : World} (h : Off b w w') {L : List (BitVec 64)} (ne : a ≠ b) (hL : Lns w a L) : Lns w' a L := fun i hi => h.cell ne (hL i hi)

/-- Block b holds these ints. -/
def Tab (W : World) (b : Nat) (l : List Nat) : Prop := ∀ i, i < l.length → W.cell? ⟨b, i, none⟩ = some (.int .i64 ((l.getD i 0 : Nat) : Int))
theorem Tab.keep {W w1 : World} {b : Nat} {l : List Nat} (h : Tab W b l) (hb : Below W.heap.size W w1) : Tab w1 b l := fun i hi => cell_keep hb (h i hi)
theorem Tab.lt {W : World} {b : Nat} {l : List Nat} (h : Tab W b l) (hl : 0 < l.length) : b < W.heap.size := World.block_lt_of_cell? W ⟨b, 0, none⟩ (h 0 hl)
theorem Off.tab {b a : Nat} {w w' : World} (h : Off b w w') {l : List Nat} (ne : a ≠ b) (hL : Tab w a l) : Tab w' a l := fun i hi => h.cell ne (hL i hi)

end Go.Proofs.YtcjabligkeaafaaDoor.K
