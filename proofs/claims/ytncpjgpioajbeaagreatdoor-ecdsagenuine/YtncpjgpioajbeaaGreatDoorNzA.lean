import Derived.Test.YtncpjgpioajbeaaGreatDoorNzN
import Derived.Deep.RegionHeld
import Derived.Lib.AppendZeros
/- Nonces: what stays but for some blocks; the tables. -/
namespace Go.Proofs.YtncpjgpioajbeaaGreatDoor
open Go.RowKit Go.Sort

/-- But for these blocks all is as it was. -/
structure BtZ (P : Nat → Prop) (w w' : World) : Prop where
  os : w'.os = w.os
  tape : w'.tape = w.tape
  output : w'.output = w.output
  size : w.heap.size ≤ w'.heap.size
  block : ∀ k, k < w.heap.size → ¬ P k → w'.heap[k]? = w.heap[k]?
theorem BtZ.of_below {P : Nat → Prop} {w w' : World} (h : Below w.heap.size w w') : BtZ P w w' := ⟨h.os, h.tape, h.output, h.size, fun k hk _ => h.block k hk⟩
theorem BtZ.trans {P : Nat → Prop} {w v u : World} (h : BtZ P w v) (k : BtZ P v u) : BtZ P w u :=
  ⟨k.os.trans h.os, k.tape.trans h.tape, k.output.trans h.output, Nat.le_trans h.size k.size, fun i hi hb => (k.block i (Nat.lt_of_lt_of_le hi h.size) hb).trans (h.block i hi hb)⟩
theorem BtZ.off {P : Nat → Prop} {b : Nat} {w w' : World} (hb : P b) (h : S.Off b w w') : BtZ P w w' := ⟨h.os, h.tape, h.output, h.size, fun k hk hn => h.block k hk (fun e => hn (e ▸ hb))⟩
theorem BtZ.wide {P Q : Nat → Prop} {w w' : World} (h : BtZ P w w') (i : ∀ k, P k → Q k) : BtZ Q w w' := ⟨h.os, h.tape, h.output, h.size, fun k hk hn => h.block k hk (fun p => hn (i k p))⟩
theorem BtZ.below {P : Nat → Prop} {B : Nat} {w w' : World} (h : BtZ P w w') (h1 : B ≤ w.heap.size) (h2 : ∀ k, P k → B ≤ k) : Below B w w' := ⟨h.os, h.tape, h.output, h.size, fun k hk => h.block k (by omega) (fun p => by have := h2 k p; omega)⟩
theorem BtZ.cell {P : Nat → Prop} {w w' : World} (h : BtZ P w w') {p : Addr} (hp : ¬ P p.block) {v : Value} (hv : w.cell? p = some v) : w'.cell? p = some v := by
  have lt := World.block_lt_of_cell? w p hv
  rw [World.cell?_of_block (h.block p.block lt hp)]; exact hv
theorem BtZ.hsh {P : Nat → Prop} {w w' : World} (h : BtZ P w w') {b : Nat} {M : List (BitVec 8)} (hp : ¬ P b) (hh : S.Hsh w b M) : S.Hsh w' b M :=
  ⟨hh.1, fun i hi => h.cell (p := ⟨b, i, none⟩) hp (hh.2.1 i hi), fun i hi => by rw [World.frozen?_of_block (h.block b hh.lt hp)]; exact hh.2.2 i hi⟩
/-- The tables of sha. -/
def ShT (W : World) : Prop := S.Wds W 2 0 S.hN ∧ S.Wds W 3 0 S.kN
theorem ShT.keep {W w1 : World} (h : ShT W) (hb : Below W.heap.size W w1) : ShT w1 := ⟨h.1.keep hb, h.2.keep hb⟩
theorem ShT.lt {W : World} (h : ShT W) : 2 < W.heap.size ∧ 3 < W.heap.size := ⟨h.1.lt (by decide), h.2.lt (by decide)⟩
theorem BtZ.sht {P : Nat → Prop} {w w' : World} (h : BtZ P w w') (hp : ¬ P 2 ∧ ¬ P 3) (hh : ShT w) : ShT w' :=
  ⟨fun i hi => h.cell (p := ⟨2, 0 + i, none⟩) hp.1 (hh.1 i hi), fun i hi => h.cell (p := ⟨3, 0 + i, none⟩) hp.2 (hh.2 i hi)⟩
theorem BtZ.mds {P : Nat → Prop} {w w' : World} (h : BtZ P w w') (hp : ¬ P 1) (hh : Mds w) : Mds w' :=
  fun i hi => h.cell (p := ⟨1, i, none⟩) hp (hh i hi)
/-- Both, with the places that hold them. -/
def KvAt (W : World) (bk bv : Nat) (s : KvZ) : Prop := S.Hsh W bk s.k ∧ S.Hsh W bv s.v
theorem KvAt.keep {W w1 : World} {bk bv : Nat} {s : KvZ} (h : KvAt W bk bv s) (hb : Below W.heap.size W w1) : KvAt w1 bk bv s := ⟨h.1.keep hb, h.2.keep hb⟩
/-- A part of 32 bytes in a block. -/
theorem Hsh_part {W : World} {b : Nat} {M : List (BitVec 8)} (h : S.Hsh W b M) {c : Nat} (hc : 32 ≤ c) : (⟨some ⟨b, 0, none⟩, b, 0, c, M⟩ : S.Part).ok W :=
  ⟨.inr rfl, by show M.length ≤ c; have := h.1; omega, fun i hi => by rw [Nat.zero_add]; exact h.2.1 i (by have h1 : i < M.length := hi; have := h.1; omega)⟩
/-- Two slices of which one is appended to the other: new memory. -/
theorem append_parts {w : World} {g bp op cp m n : Nat} {PS QS : List S.Part} {ty : TypeId} (hm : PS.length = m) (hn : QS.length = n) (n0 : 0 < n) (hP : S.Prts w g 0 PS) (hQ : S.Prts w bp op QS) (hl : m + n < 1024) :
    ∃ c' w', (Builtin.append_ #[74, 74] ty #[.slice (some ⟨g, 0, none⟩) m m, .slice (some ⟨bp, op, none⟩) n cp]).run Tryz.prog w = .ok (.slice (some ⟨w.heap.size, 0, none⟩) (m + n) c') w' ∧ S.Prts w' w.heap.size 0 (PS ++ QS) ∧ Below w.heap.size w w' := by
  have hi0 : (Tryz.prog.info? 76).map (fun i => (i.zero, i.size, i.bytes)) = some (some (.slice none 0 0), 1, 24) := by kernel_rfl
  obtain ⟨i0, hi, hz0, hz1, hz2⟩ : ∃ i0, Tryz.prog.info? 76 = some i0 ∧ i0.zero = some (.slice none 0 0) ∧ i0.size = 1 ∧ i0.bytes = 24 := by
    cases e : Tryz.prog.info? 76 with
    | none => rw [e] at hi0; simp at hi0
    | some i => rw [e] at hi0; simp at hi0; exact ⟨i, rfl, hi0.1, hi0.2.1, hi0.2.2⟩
  have ht := Tryz.underlying74
  have at_ : ∀ {RS : List S.Part} {b o : Nat}, S.Prts w b o RS → ∀ j v, (RS.map S.Part.val)[j]? = some v → w.cell? ((⟨b, o, none⟩ : Addr).add j) = some v := fun {RS b o} h j v hv => by
    rw [List.getElem?_map] at hv
    obtain ⟨x, hx, rfl⟩ := Option.map_eq_some_iff.1 hv
    have hj : j < RS.length := (List.getElem?_eq_some_iff.1 hx).1
    rw [Addr.add_mid, (h j hj).1]
    simp [List.getD, hx]
  have hr := run_append_grow (P := Tryz.prog) w 74 ty 76 i0 (.slice none 0 0) ht hi hz0 ⟨g, 0, none⟩ m m (PS.map S.Part.val) (by rw [hz1]; simp [hm]) (at_ hP) ⟨bp, op, none⟩ n cp (QS.map S.Part.val) (by rw [hz1]; simp [hn]) (at_ hQ) (by omega) (by omega) (by rw [hz2]; exact growslice_fits (by omega) (by omega))
  refine ⟨_, _, hr, fun i hi' => ?_, (Below.refl _ _).drew.alloc (Nat.le_refl _) _⟩
  have B : Below w.heap.size w (w.drew.alloc (.cells ((PS.map S.Part.val).toArray ++ (QS.map S.Part.val).toArray ++ Builtin.zeroCells (Value.slice none 0 0).cells (grownCap w (m + n) m 76 - (m + n))) 76)) := (Below.refl _ _).drew.alloc (Nat.le_refl _) _
  have okk : ∀ {p : S.Part}, p.ok w → p.ok (w.drew.alloc (.cells ((PS.map S.Part.val).toArray ++ (QS.map S.Part.val).toArray ++ Builtin.zeroCells (Value.slice none 0 0).cells (grownCap w (m + n) m 76 - (m + n))) 76)) := fun {p} h => ⟨h.1, h.2.1, h.2.2.keep B⟩
  rw [Nat.zero_add]
  have hnw : (w.drew.alloc (.cells ((PS.map S.Part.val).toArray ++ (QS.map S.Part.val).toArray ++ Builtin.zeroCells (Value.slice none 0 0).cells (grownCap w (m + n) m 76 - (m + n))) 76)).heap[w.heap.size]? = some (.cells ((PS.map S.Part.val).toArray ++ (QS.map S.Part.val).toArray ++ Builtin.zeroCells (Value.slice none 0 0).cells (grownCap w (m + n) m 76 - (m + n))) 76) := by
    show (w.heap.push _)[w.heap.size]? = _
    simp
  rw [List.length_append] at hi'
  rw [cell_of_row _ _ i _ _ _ hnw, Array.getElem?_append_left (by simp; omega)]
  by_cases k : i < PS.length
  · rw [Array.getElem?_append_left (by simpa using k)]
    have e : (PS ++ QS).getD i .none = PS.getD i .none := by simp [List.getD, List.getElem?_append_left k]
    rw [e]
    exact ⟨by simp [List.getD, k], okk (hP i k).2⟩
  · rw [Array.getElem?_append_right (by simp; omega)]
    have k2 : i - PS.length < QS.length := by omega
    have e : (PS ++ QS).getD i .none = QS.getD (i - PS.length) .none := by simp [List.getD, List.getElem?_append_right (Nat.le_of_not_lt k)]
    rw [e]
    exact ⟨by simp [List.getD, k2], okk (hQ _ k2).2⟩
theorem append_rest {w : World} {g bp op cp n : Nat} {a : Option Addr} {PS QS : List S.Part} {ty : TypeId} (hm : PS.length = 2) (hn : QS.length = n) (ha : (QS = [] ∧ a = none ∧ cp = 0) ∨ (QS ≠ [] ∧ a = some ⟨bp, op, none⟩)) (hP : S.Prts w g 0 PS) (hQ : S.Prts w bp op QS) (hl : n < 1000) :
    ∃ b' c' w', (Builtin.append_ #[74, 74] ty #[.slice (some ⟨g, 0, none⟩) 2 2, .slice a n cp]).run Tryz.prog w = .ok (.slice (some ⟨b', 0, none⟩) (PS ++ QS).length c') w' ∧ S.Prts w' b' 0 (PS ++ QS) ∧ Below w.heap.size w w' := by
  rcases ha with ⟨rfl, rfl, rfl⟩ | ⟨h0, rfl⟩
  · subst hn
    have hi0 : (Tryz.prog.info? 76).map (fun i => i.size) = some 1 := by kernel_rfl
    have ht := Tryz.underlying74
    refine ⟨g, 2, w, ?_, by rw [List.append_nil]; exact hP, Below.refl _ _⟩
    rw [List.append_nil, hm]
    cases e : Tryz.prog.info? 76 with
    | none => rw [e] at hi0; simp at hi0
    | some i => simp [Builtin.append_, run_underlying ht, sizeOf, typeInfo, e, Builtin.lenOf, Builtin.firstCells, storeCells]
  · have n0 : 0 < n := by rw [← hn]; exact List.length_pos_iff.2 h0
    obtain ⟨c', w', h1, h2, h3⟩ := append_parts (cp := cp) (ty := ty) hm hn n0 hP hQ (by omega)
    exact ⟨_, c', w', by rw [h1, List.length_append, hm, hn], h2, h3⟩
theorem takeZ {P : Program} {md : Region.Mode} {ops : Array Oper} {Q : Exit → Act → World → Prop} {S : World → Prop} {i : Nat} {oi : Oper} {v : Value} {fuel : Nat} {listed : Array Bool} {a : Act} {w : World} (d : Nat) (hi : ops[i]? = some oi) (hd : oi.dst = some d)
    (hs : Region.noSelect ops = true) (hf : Region.free md ops listed i = true) (hr : (Region.ready md ops listed).contains i = true)
    (hQ : ∀ c a w, Q (.panic c) (a.put oi.dst v) w → Q (.panic c) a w) (hy : YieldsIf P ops S oi v a) (hS : S w)
    (h : wpAnyH P md ops Q S fuel (listed.setIfInBounds i true) (a.put (some d) v) w) : wpAnyH P md ops Q S (fuel + 1) listed a w :=
  wpAnyH_take hi hs hf hr hQ hy hS (by rw [hd]; exact h)
theorem worldZ {K : Act → World → Prop} {a : Act} {w : World} (I : World → Prop) (h : I w) (k : ∀ V, I V → K a V) : K a w := k w h
/-- A slice of parts, built. -/
theorem prts_oneZ {W : World} {p : S.Part} {v : Value} {g : Nat} {ty : TypeId} (e : g = W.heap.size) (ev : v = p.val) (h : p.ok W) : S.Prts (W.alloc (.cells #[v] ty)) g 0 [p] := by
  subst e; subst ev
  intro i hi
  obtain rfl : i = 0 := by simpa using hi
  exact ⟨by rw [Nat.zero_add, World.cell?_alloc_mark]; rfl, h.1, h.2.1, h.2.2.keep ((Below.refl _ _).alloc (Nat.le_refl _) _)⟩
theorem prts_twoZ {W : World} {p q : S.Part} {v1 v2 : Value} {g : Nat} {ty : TypeId} (e : g = W.heap.size) (e1 : v1 = p.val) (e2 : v2 = q.val) (h : p.ok W) (k : q.ok W) : S.Prts (W.alloc (.cells #[v1, v2] ty)) g 0 [p, q] := by
  subst e; subst e1; subst e2
  intro i hi
  have i2 : i < 2 := by simpa using hi
  have B : ∀ o, Below W.heap.size W (W.alloc o) := fun o => (Below.refl _ _).alloc (Nat.le_refl _) o
  rcases (by omega : i = 0 ∨ i = 1) with rfl | rfl
  · exact ⟨by rw [Nat.zero_add, World.cell?_alloc_mark]; rfl, h.1, h.2.1, h.2.2.keep (B _)⟩
  · exact ⟨by rw [Nat.zero_add, World.cell?_alloc_mark]; rfl, k.1, k.2.1, k.2.2.keep (B _)⟩
theorem okZ {W w1 : World} {p : S.Part} (h : p.ok W) (B : Below W.heap.size W w1) : p.ok w1 := ⟨h.1, h.2.1, h.2.2.keep B⟩
theorem prtsZ {W w1 : World} {b o : Nat} {PS : List S.Part} (h : S.Prts W b o PS) (B : Below W.heap.size W w1) : S.Prts w1 b o PS := fun i hi => ⟨S.cell_keep B (h i hi).1, okZ (h i hi).2 B⟩
theorem catX_appZ (PS QS : List S.Part) : S.catX (PS ++ QS) = S.catX PS ++ S.catX QS := by simp [S.catX]
/-- A byte in a block of its own. -/
theorem byte_partZ {W : World} {m : Int} {mb : BitVec 8} {ty : TypeId} (hm : S.Y mb = m) : (⟨some ⟨W.heap.size, 0, none⟩, W.heap.size, 0, 1, [mb]⟩ : S.Part).ok (W.alloc (.cells #[.int .u8 m] ty)) :=
  ⟨.inr rfl, Nat.le_refl _, fun i hi => by
    obtain rfl : i = 0 := by simpa using hi
    rw [Nat.zero_add, World.cell?_alloc_mark, ← hm]; rfl⟩
/-- A digest is stored over a block's 32 bytes. -/
theorem stored_off {W : World} {b : Nat} {M T : List (BitVec 8)} (h : S.Hsh W b T) (hl : M.length = 32) : S.Hsh (W.setCells b 0 (S.byts M)) b M ∧ S.Off b W (W.setCells b 0 (S.byts M)) := ⟨h.stored hl, (S.Off.refl b W).setCells _⟩
end Go.Proofs.YtncpjgpioajbeaaGreatDoor
