import Derived.Test.YtmhcgjkemlcgoaaDoorKMix
import Derived.Deep.Upon
import Derived.Test.YtmhcgjkemlcgoaaDoorKSqueeze
namespace Go.Proofs.YtmhcgjkemlcgoaaDoor.K
open Go.RowKit Go.Sort

/-- Block b holds these bytes from offset o on. -/
def Byo (W : World) (b o : Nat) (X : List (BitVec 8)) : Prop := ∀ i, i < X.length → W.cell? ⟨b, o + i, none⟩ = some (.int .u8 (Y (X.getD i 0)))
theorem Byo.keep {W w1 : World} {b o : Nat} {X : List (BitVec 8)} (h : Byo W b o X) (hb : Below W.heap.size W w1) : Byo w1 b o X := fun i hi => cell_keep hb (h i hi)
theorem Byo.off {b b' o : Nat} {w w' : World} {X : List (BitVec 8)} (h : Byo w b o X) (ho : Off b' w w') (ne : b ≠ b') : Byo w' b o X := fun i hi => ho.cell ne (h i hi)
theorem Byo.drop {W : World} {b o n : Nat} {X : List (BitVec 8)} (h : Byo W b o X) : Byo W b (o + n) (X.drop n) := fun i hi => by
  rw [List.length_drop] at hi
  have := h (n + i) (by omega)
  rw [show o + n + i = o + (n + i) by omega, this]
  simp [List.getD, List.getElem?_drop]

theorem Sp.range {W : World} {b : Nat} {k : Int} {L : List (BitVec 64)} {t : Nat} (h : Sp W b k L t) : W.rangeAt b 1 (lanes L) := by
  intro j v hv
  unfold lanes at hv
  rw [List.getElem?_map] at hv
  obtain ⟨x, hx, rfl⟩ := Option.map_eq_some_iff.1 hv
  have hj : j < L.length := (List.getElem?_eq_some_iff.1 hx).1
  rw [h.2.2.1 j hj]
  simp [List.getD, hx]
theorem Sp.there {W : World} {b : Nat} {k : Int} {L : List (BitVec 64)} {t : Nat} (h : Sp W b k L t) : W.there b 1 25 := by
  intro j hj
  exact ⟨by rw [h.2.2.1 j (by rw [h.1]; exact hj)]; rfl, h.2.2.2.2 (1 + j) (by omega)⟩
theorem Sp.stored {W : World} {b : Nat} {k : Int} {L M : List (BitVec 64)} {t : Nat} (h : Sp W b k L t) (hl : M.length = 25) : Sp (W.setCells b 1 (lanes M)) b k M t := by
  refine ⟨hl, ?_, fun j hj => ?_, ?_, h.2.2.2.2.setCells _ _ _⟩
  · rw [World.cell?_setCells_out _ _ _ _ _ (fun _ _ => .inl (by simp))]; exact h.2.1
  · have := World.rangeAt_setCells_same W b 1 (lanes M) (by rw [lanes_len, hl]; exact h.there) j (.int .u64 (V (M.getD j 0))) (by simp [lanes, List.getD, hj])
    exact this
  · rw [World.cell?_setCells_out _ _ _ _ _ (fun _ _ => .inr (by rw [lanes_len, hl]; exact Nat.le_refl 26))]; exact h.2.2.2.1
theorem Off.setCells {b o : Nat} {w w' : World} (h : Off b w w') (cs : List Value) : Off b w (w'.setCells b o cs) := by
  have := below_setCells (B := 0) (a := w') (Nat.zero_le b) cs o w' (Below.refl _ _)
  refine h.trans ⟨this.os, this.tape, this.output, this.size, fun k hk hb => World.heap_setCells_other _ _ _ _ hk hb⟩

/-- What a slice of bytes is: where there are any, it says where they lie. -/
def At (a : Option Addr) (b o : Nat) (X : List (BitVec 8)) : Prop := X = [] ∨ a = some ⟨b, o, none⟩

end Go.Proofs.YtmhcgjkemlcgoaaDoor.K

namespace Go.Proofs.YtmhcgjkemlcgoaaDoor.K
open Go.RowKit Go.Sort

/-- The byte that begins the filling. -/
def fstB (k : Int) : BitVec 8 := if k = 1 then 6 else 1
/-- The digest of what a sponge has taken in. -/
def finL (k : Int) (L : List (BitVec 64)) (t : Nat) : List (BitVec 64) := perm (mixL (mixL L (t % 136) (fstB k)) 135 128)
set_option maxHeartbeats 1000000 in
theorem first_any {b : Nat} {k : Int} (w : World) (hk : w.cell? ⟨b, 0, none⟩ = some (.int .i64 k)) :
    Calls Tryd.prog 33 #[.pointer (some ⟨b, 0, none⟩)] w fun e w' => e = .returned (.int .u8 (Y (fstB k))) ∧ w' = w := by
  have y6 : Y 6 = 6 := by rw [Y_eq]; rfl
  have y1 : Y 1 = 1 := by rw [Y_eq]; rfl
  go_enter Tryd.func33, Tryd.ntmps33
  by_cases h : k = 1
  · subst h
    go_wp2
    go_ret
    exact ⟨by rw [fstB, if_pos rfl, y6]; rfl, rfl⟩
  · have h2 : (k == 1) = false := beq_eq_false_iff_ne.2 h
    go_wp2
    go_ret
    exact ⟨by rw [fstB, if_neg h, y1]; rfl, rfl⟩

theorem mix_n {b o p : Nat} {z : BitVec 64} {n : Int} {x : BitVec 8} (e : Y x = n) (hp : p < 200) (w : World) (hz : w.cell? ⟨b, o + p / 8, none⟩ = some (.int .u64 (V z))) (hf : w.frozen? ⟨b, o + p / 8, none⟩ = false) :
    Calls Tryd.prog 31 #[.pointer (some ⟨b, o, none⟩), .int .i64 p, .int .u8 n] w fun e w' => e = .returned (.tuple #[]) ∧ w' = w.drew.setCell ⟨b, o + p / 8, none⟩ (.int .u64 (V (z ^^^ up x (p % 8 * 8)))) := by
  subst e; exact mix_any x hp w hz hf
theorem Arr.mix {W : World} {b : Nat} {L : List (BitVec 64)} (h : Arr W b L) {p : Nat} (hp : p < 200) (x : BitVec 8) : Arr (W.setCell ⟨b, 0 + p / 8, none⟩ (.int .u64 (V (L.getD (p / 8) 0 ^^^ up x (p % 8 * 8))))) b (mixL L p x) := by
  rw [Nat.zero_add]; exact h.set (p / 8) (by omega) _

end Go.Proofs.YtmhcgjkemlcgoaaDoor.K

namespace Go.Proofs.YtmhcgjkemlcgoaaDoor.K
open Go.RowKit Go.Sort

/-- A part of a text: a slice of bytes. -/
structure Part where
  a : Option Addr
  b : Nat
  o : Nat
  c : Nat
  X : List (BitVec 8)
def Part.none : Part := ⟨.none, 0, 0, 0, []⟩
def Part.val (p : Part) : Value := .slice p.a p.X.length p.c
def Part.ok (W : World) (p : Part) : Prop := At p.a p.b p.o p.X ∧ p.X.length ≤ p.c ∧ Byo W p.b p.o p.X
/-- Block b holds these slices from offset o on. -/
def Prts (W : World) (b o : Nat) (PS : List Part) : Prop := ∀ i, i < PS.length → W.cell? ⟨b, o + i, none⟩ = some (PS.getD i .none).val ∧ (PS.getD i .none).ok W
def catX (PS : List Part) : List (BitVec 8) := PS.flatMap (·.X)
theorem catX_next {PS : List Part} {i : Nat} (h : i < PS.length) : catX (PS.take (i + 1)) = catX (PS.take i) ++ (PS.getD i .none).X := by
  rw [List.take_add_one, catX, List.flatMap_append, List.getD, List.getElem?_eq_getElem h]
  simp [catX]
theorem catX_le {PS : List Part} (i : Nat) : (catX (PS.take i)).length ≤ (catX PS).length := by
  have h : catX PS = catX (PS.take i) ++ catX (PS.drop i) := by
    rw [catX, catX, catX, ← List.flatMap_append, List.take_append_drop]
  rw [h, List.length_append]
  omega

theorem rep_getD (n i : Nat) : (List.replicate n (0 : BitVec 64)).getD i 0 = 0 := by
  rw [List.getD, List.getElem?_replicate]
  split <;> rfl
theorem Sp.zeros {W : World} {b : Nat} (k : Int) (h : W.there b 0 27) : Sp (W.setCells b 0 [.int .i64 k, .int .u64 0, .int .u64 0, .int .u64 0, .int .u64 0, .int .u64 0, .int .u64 0, .int .u64 0, .int .u64 0, .int .u64 0, .int .u64 0, .int .u64 0, .int .u64 0, .int .u64 0, .int .u64 0, .int .u64 0, .int .u64 0, .int .u64 0, .int .u64 0, .int .u64 0, .int .u64 0, .int .u64 0, .int .u64 0, .int .u64 0, .int .u64 0, .int .u64 0, .int .i64 0]) b k (List.replicate 25 0) 0 := by
  have r := World.rangeAt_setCells_same W b 0 [.int .i64 k, .int .u64 0, .int .u64 0, .int .u64 0, .int .u64 0, .int .u64 0, .int .u64 0, .int .u64 0, .int .u64 0, .int .u64 0, .int .u64 0, .int .u64 0, .int .u64 0, .int .u64 0, .int .u64 0, .int .u64 0, .int .u64 0, .int .u64 0, .int .u64 0, .int .u64 0, .int .u64 0, .int .u64 0, .int .u64 0, .int .u64 0, .int .u64 0, .int .u64 0, .int .i64 0] h
  have z : V 0#64 = 0 := V_zero
  refine ⟨by simp, ?_, fun i hi => ?_, ?_, fun i hi => ?_⟩
  · exact r 0 _ rfl
  · have hi' : i < 25 := by simpa using hi
    rw [rep_getD]
    have e : ([.int .i64 k, .int .u64 0, .int .u64 0, .int .u64 0, .int .u64 0, .int .u64 0, .int .u64 0, .int .u64 0, .int .u64 0, .int .u64 0, .int .u64 0, .int .u64 0, .int .u64 0, .int .u64 0, .int .u64 0, .int .u64 0, .int .u64 0, .int .u64 0, .int .u64 0, .int .u64 0, .int .u64 0, .int .u64 0, .int .u64 0, .int .u64 0, .int .u64 0, .int .u64 0, .int .i64 0] : List Value) = .int .i64 k :: (List.replicate 25 (.int .u64 0) ++ [.int .i64 0]) := rfl
    have := r (1 + i) (.int .u64 0) (by rw [e, Nat.add_comm 1 i, List.getElem?_cons_succ, List.getElem?_append_left (by simpa using hi'), List.getElem?_replicate, if_pos hi'])
    rw [Nat.zero_add] at this
    rw [this]
    exact congrArg (fun z => some (Value.int .u64 z)) z.symm
  · exact r 26 _ rfl
  · rw [World.frozen?_setCells]
    have := (h i hi).2
    rwa [Nat.zero_add] at this

theorem Hsh.off {w w' : World} {a b : Nat} {M : List (BitVec 8)} (h : Hsh w a M) (o : Off b w w') (ne : a ≠ b) : Hsh w' a M :=
  ⟨h.1, fun i hi => o.cell ne (h.2.1 i hi), fun i hi => by rw [World.frozen?_of_block (o.block a h.lt ne)]; exact h.2.2 i hi⟩

/-- A new sponge's block. -/
theorem fresh_sponge {W : World} {b : Nat} (e : b = W.heap.size) : (W.alloc (.cells #[.int .i64 0, .int .u64 0, .int .u64 0, .int .u64 0, .int .u64 0, .int .u64 0, .int .u64 0, .int .u64 0, .int .u64 0, .int .u64 0, .int .u64 0, .int .u64 0, .int .u64 0, .int .u64 0, .int .u64 0, .int .u64 0, .int .u64 0, .int .u64 0, .int .u64 0, .int .u64 0, .int .u64 0, .int .u64 0, .int .u64 0, .int .u64 0, .int .u64 0, .int .u64 0, .int .i64 0] 49)).there b 0 27 := by
  subst e
  intro j hj
  rw [Nat.zero_add, World.cell?_alloc_mark]
  refine ⟨?_, by simp [go_sem]⟩
  have : (#[.int .i64 0, .int .u64 0, .int .u64 0, .int .u64 0, .int .u64 0, .int .u64 0, .int .u64 0, .int .u64 0, .int .u64 0, .int .u64 0, .int .u64 0, .int .u64 0, .int .u64 0, .int .u64 0, .int .u64 0, .int .u64 0, .int .u64 0, .int .u64 0, .int .u64 0, .int .u64 0, .int .u64 0, .int .u64 0, .int .u64 0, .int .u64 0, .int .u64 0, .int .u64 0, .int .i64 0] : Array Value)[j]?.isSome = true := by simp; omega
  exact this
theorem fresh_sponge2 {W : World} {b : Nat} (k : Int) (e : b = W.heap.size) : (W.alloc (.cells #[.int .i64 0, .int .u64 0, .int .u64 0, .int .u64 0, .int .u64 0, .int .u64 0, .int .u64 0, .int .u64 0, .int .u64 0, .int .u64 0, .int .u64 0, .int .u64 0, .int .u64 0, .int .u64 0, .int .u64 0, .int .u64 0, .int .u64 0, .int .u64 0, .int .u64 0, .int .u64 0, .int .u64 0, .int .u64 0, .int .u64 0, .int .u64 0, .int .u64 0, .int .u64 0, .int .i64 0] 49)).there b 0 ([.int .i64 k, .int .u64 0, .int .u64 0, .int .u64 0, .int .u64 0, .int .u64 0, .int .u64 0, .int .u64 0, .int .u64 0, .int .u64 0, .int .u64 0, .int .u64 0, .int .u64 0, .int .u64 0, .int .u64 0, .int .u64 0, .int .u64 0, .int .u64 0, .int .u64 0, .int .u64 0, .int .u64 0, .int .u64 0, .int .u64 0, .int .u64 0, .int .u64 0, .int .u64 0, .int .i64 0] : List Value).toArray.size := fresh_sponge e
theorem sponge_size (k : Int) : (Tryd.prog.info? 49).map (·.size) = some ([.int .i64 k, .int .u64 0, .int .u64 0, .int .u64 0, .int .u64 0, .int .u64 0, .int .u64 0, .int .u64 0, .int .u64 0, .int .u64 0, .int .u64 0, .int .u64 0, .int .u64 0, .int .u64 0, .int .u64 0, .int .u64 0, .int .u64 0, .int .u64 0, .int .u64 0, .int .u64 0, .int .u64 0, .int .u64 0, .int .u64 0, .int .u64 0, .int .u64 0, .int .u64 0, .int .i64 0] : List Value).toArray.size := by
  have : (Tryd.prog.info? 49).map (·.size) = some 27 := by kernel_rfl
  rw [this]
  rfl
theorem sponge_ones (k : Int) : ([.int .i64 k, .int .u64 0, .int .u64 0, .int .u64 0, .int .u64 0, .int .u64 0, .int .u64 0, .int .u64 0, .int .u64 0, .int .u64 0, .int .u64 0, .int .u64 0, .int .u64 0, .int .u64 0, .int .u64 0, .int .u64 0, .int .u64 0, .int .u64 0, .int .u64 0, .int .u64 0, .int .u64 0, .int .u64 0, .int .u64 0, .int .u64 0, .int .u64 0, .int .u64 0, .int .i64 0] : List Value).toArray.all (·.oneCell') = true := all_oneCell_toArray (by
  intro v hv
  simp only [List.mem_cons, List.not_mem_nil, or_false] at hv
  rcases hv with rfl | hv
  · rfl
  · repeat (first | (rcases hv with rfl | hv; rfl) | (subst hv; rfl)))

end Go.Proofs.YtmhcgjkemlcgoaaDoor.K

namespace Go.Proofs.YtmhcgjkemlcgoaaDoor.K
open Go.RowKit Go.Sort

/-- The digest of a text. -/
noncomputable def digV (k : Int) (X : List (BitVec 8)) : Value := .agg (byts (hashL (finL k (absb (List.replicate 25 0) 0 X) X.length))).toArray

end Go.Proofs.YtmhcgjkemlcgoaaDoor.K
