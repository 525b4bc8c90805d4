import Derived.Test.YtncpjgpioajbeaaGreatDoorSBase
/- Words of 32 bits; rows of them in blocks. -/
namespace Go.Proofs.YtncpjgpioajbeaaGreatDoor.S
open Go.RowKit Go.Sort

theorem U_there : ∃ f : BitVec 32 → Int, ∀ x, f x = (x.toNat : Int) := ⟨_, fun _ => rfl⟩
/-- A word as the program's number: under a name that the walk cannot open. -/
noncomputable def U : BitVec 32 → Int := Classical.choose U_there
theorem U_eq (x : BitVec 32) : U x = (x.toNat : Int) := Classical.choose_spec U_there x
theorem U_lo (x : BitVec 32) : 0 ≤ U x := by rw [U_eq]; omega
theorem U_hi (x : BitVec 32) : U x < 4294967296 := by rw [U_eq]; have := x.isLt; omega
theorem U_zero : U 0 = 0 := by rw [U_eq]; rfl
theorem U_xor (x y : BitVec 32) : bits .xor .u32 (U x) (U y) = U (x ^^^ y) := by
  rw [U_eq, U_eq, U_eq, u32_xor_nat _ _ (by have := x.isLt; omega) (by have := y.isLt; omega), BitVec.toNat_xor]
theorem U_and (x y : BitVec 32) : bits .and .u32 (U x) (U y) = U (x &&& y) := by
  rw [U_eq, U_eq, U_eq, u32_and_nat _ _ (by have := x.isLt; omega) (by have := y.isLt; omega), BitVec.toNat_and]
theorem U_or (x y : BitVec 32) : bits .or .u32 (U x) (U y) = U (x ||| y) := by
  rw [U_eq, U_eq, U_eq, u32_or_nat _ _ (by have := x.isLt; omega) (by have := y.isLt; omega), BitVec.toNat_or]
theorem U_max : IntKind.u32.max = U (BitVec.allOnes 32) := by rw [U_eq]; decide
theorem U_not (x : BitVec 32) : bits .xor .u32 IntKind.u32.max (U x) = U (~~~x) := by
  rw [U_max, U_xor, BitVec.allOnes_xor]
theorem U_add (x y : BitVec 32) : IntKind.u32.wrap (U x + U y) = U (x + y) := by
  rw [IntKind.wrap_u32', U_eq, U_eq, U_eq, BitVec.toNat_add]
  simp
theorem U_shr (x : BitVec 32) (n : Nat) : U x / 2 ^ n = U (x >>> n) := by
  rw [U_eq, U_eq, BitVec.toNat_ushiftRight, Nat.shiftRight_eq_div_pow]
  simp
theorem U_shl (x : BitVec 32) (n : Nat) : IntKind.u32.wrap (U x * 2 ^ n) = U (x <<< n) := by
  rw [IntKind.wrap_u32', U_eq, U_eq, BitVec.toNat_shiftLeft, Nat.shiftLeft_eq]
  simp
/-- A byte as a word. -/
def wide (x : BitVec 8) : BitVec 32 := x.setWidth 32
theorem U_wide (x : BitVec 8) : Y x = U (wide x) := by
  have hx := x.isLt
  rw [Y_eq, U_eq, wide, BitVec.toNat_setWidth, Nat.mod_eq_of_lt (by omega)]
/-- A word's byte, n bits up. -/
def cut8 (x : BitVec 32) (n : Nat) : BitVec 8 := (x >>> n).setWidth 8
theorem Y_cut (x : BitVec 32) (n : Nat) : IntKind.u8.wrap (U x / 2 ^ n) = Y (cut8 x n) := by
  rw [IntKind.wrap_u8', U_eq, Y_eq, cut8, BitVec.toNat_setWidth, BitVec.toNat_ushiftRight, Nat.shiftRight_eq_div_pow]
  simp
/-- A word turned right. -/
def rotr (x : BitVec 32) (n : Nat) : BitVec 32 := x >>> n ||| x <<< (32 - n)
theorem U_rotr (x : BitVec 32) (n : Nat) : bits .or .u32 (IntKind.u32.wrap (U x * 2 ^ (32 - n))) (U x / 2 ^ n) = U (rotr x n) := by
  rw [U_shl, U_shr, U_or, rotr, BitVec.or_comm]
theorem Y_xor (x y : BitVec 8) : bits .xor .u8 (Y x) (Y y) = Y (x ^^^ y) := by
  rw [Y_eq, Y_eq, Y_eq, u8_xor_nat _ _ (by have := x.isLt; omega) (by have := y.isLt; omega), BitVec.toNat_xor]

/-- A row of words as values. -/
noncomputable def wrds (L : List (BitVec 32)) : List Value := L.map fun x => .int .u32 (U x)
theorem wrds_len (L : List (BitVec 32)) : (wrds L).length = L.length := by simp [wrds]
theorem one_wrds (L : List (BitVec 32)) : (wrds L).toArray.all (·.oneCell') = true := all_oneCell_toArray (by
  intro v hv
  obtain ⟨x, _, rfl⟩ := List.mem_map.1 hv
  rfl)
/-- Block b holds these words from offset o on. -/
def Wds (W : World) (b o : Nat) (L : List (BitVec 32)) : Prop := ∀ i, i < L.length → W.cell? ⟨b, o + i, none⟩ = some (.int .u32 (U (L.getD i 0)))
theorem Wds.lt {W : World} {b o : Nat} {L : List (BitVec 32)} (h : Wds W b o L) (hl : 0 < L.length) : b < W.heap.size := World.block_lt_of_cell? W ⟨b, o + 0, none⟩ (h 0 hl)
theorem Wds.keep {W w1 : World} {b o : Nat} {L : List (BitVec 32)} (h : Wds W b o L) (hb : Below W.heap.size W w1) : Wds w1 b o L := fun i hi => cell_keep hb (h i hi)
theorem Wds.alloc {W : World} {b o : Nat} {L : List (BitVec 32)} (h : Wds W b o L) (x : Obj) : Wds (W.alloc x) b o L := h.keep ((Below.refl _ _).alloc (Nat.le_refl _) x)
theorem Wds.other {W : World} {b b' o i : Nat} {L : List (BitVec 32)} (h : Wds W b o L) (ne : b' ≠ b) (v : Value) : Wds (W.setCell ⟨b', i, none⟩ v) b o L := fun j hj => by rw [World.cell?_setCell_far _ _ _ _ ne]; exact h j hj
theorem Wds.otherCells {W : World} {b b' o p : Nat} {L : List (BitVec 32)} (h : Wds W b o L) (ne : b' ≠ b) (cs : List Value) : Wds (W.setCells b' p cs) b o L := fun j hj => by
  rw [World.cell?_setCells_out _ _ _ _ _ (fun e => absurd e.symm ne)]; exact h j hj
theorem Wds.off {b a o : Nat} {w w' : World} (h : Off b w w') {L : List (BitVec 32)} (ne : a ≠ b) (hL : Wds w a o L) : Wds w' a o L := fun i hi => h.cell ne (hL i hi)
theorem Wds.set {W : World} {b o : Nat} {L : List (BitVec 32)} (h : Wds W b o L) (i : Nat) (hi : i < L.length) (v : BitVec 32) : Wds (W.setCell ⟨b, o + i, none⟩ (.int .u32 (U v))) b o (L.set i v) := by
  intro j hj
  simp at hj
  by_cases e : i = j
  · subst e
    rw [World.cell?_setCell_same _ _ _ (h i hi)]
    simp [List.getD, hi]
  · have ne : (⟨b, o + i, none⟩ : Addr) ≠ ⟨b, o + j, none⟩ := by first | (simp; done) | (simp; omega)
    rw [World.cell?_setCell_other _ _ _ _ ne, h j hj]
    simp [List.getD, List.getElem?_set_ne e]
theorem Wds.range {W : World} {b o : Nat} {L : List (BitVec 32)} (h : Wds W b o L) : W.rangeAt b o (wrds L) := by
  intro j v hv
  unfold wrds at hv
  rw [List.getElem?_map] at hv
  obtain ⟨x, hx, rfl⟩ := Option.map_eq_some_iff.1 hv
  have hj : j < L.length := (List.getElem?_eq_some_iff.1 hx).1
  rw [h j hj]
  simp [List.getD, hx]
theorem Wds.of_range {W : World} {b o : Nat} {L : List (BitVec 32)} (h : W.rangeAt b o (wrds L)) : Wds W b o L := fun j hj => h j (.int .u32 (U (L.getD j 0))) (by simp [wrds, List.getD, hj])
theorem Wds.new {W : World} {b : Nat} (L : List (BitVec 32)) (t : TypeId) (e : b = W.heap.size) : Wds (W.alloc (.cells (wrds L).toArray t)) b 0 L := by
  subst e
  intro i hi
  rw [World.cell?_alloc_mark]
  simp [wrds, List.getElem?_map, List.getD, List.getElem?_eq_getElem hi]
/-- The cells o .. o+n-1 of block b may be written. -/
def Lse (W : World) (b o n : Nat) : Prop := ∀ i, i < n → W.frozen? ⟨b, o + i, none⟩ = false
theorem Wds.there {W : World} {b o n : Nat} {L : List (BitVec 32)} (h : Wds W b o L) (f : Lse W b o n) (e : L.length = n) : W.there b o n := by
  subst e
  intro j hj
  exact ⟨by rw [h j hj]; rfl, f j hj⟩
theorem Wds.stored {W : World} {b o : Nat} {L : List (BitVec 32)} (h : W.there b o L.length) : Wds (W.setCells b o (wrds L)) b o L :=
  Wds.of_range (World.rangeAt_setCells_same _ _ _ _ (by rw [wrds_len]; exact h))
theorem Loose.lse {W : World} {b n : Nat} (h : Loose W b n) : Lse W b 0 n := fun i hi => by rw [Nat.zero_add]; exact h i hi
end Go.Proofs.YtncpjgpioajbeaaGreatDoor.S
