import Derived.Test.YtcjabligkeaafaaDoorKSum
namespace Go.Proofs.YtcjabligkeaafaaDoor.K
open Go.RowKit Go.Sort

/-- A part of a text: a slice of bytes. -/
structure Part where
  a : Option Addr
  b : Nat
  o : Nat
  c : Nat
  X : List (BitVec 8)
def Part.none : Part := ⟨.none, 0, 0, 0, []⟩
def Part.val (p : Part) : Value := .slice p.a p.X.length p.c
def Part.ok (W : World) (p : Part) : Prop := At p.a p.b p.o p.X ∧ p.X.length ≤ p.c ∧ Byo W p.b p.o p.X
/-- Block b holds these slices from offset o on. -/
def Prts (W : World) (b o : Nat) (PS : List Part) : Prop := ∀ i, i < PS.length → W.cell? ⟨b, o + i, none⟩ = some (PS.getD i .none).val ∧ (PS.getD i .none).ok W
def catX (PS : List Part) : List (BitVec 8) := PS.flatMap (·.X)
theorem catX_next {PS : List Part} {i : Nat} (h : i < PS.length) : catX (PS.take (i + 1)) = catX (PS.take i) ++ (PS.getD i .none).X := by
  rw [List.take_add_one, catX, List.flatMap_append, List.getD, List.getElem?_eq_getElem h]
  simp [catX]
theorem catX_le {PS : List Part} (i : Nat) : (catX (PS.take i)).length ≤ (catX PS).length := by
  have h : catX PS = catX (PS.take i) ++ catX (PS.drop i) := by
    rw [catX, catX, catX, ← List.flatMap_append, List.take_append_drop]
  rw [h, List.length_append]
  omega

theorem rep_getD (n i : Nat) : (List.replicate n (0 : BitVec 64)).getD i 0 = 0 := by
  rw [List.getD, List.getElem?_replicate]
  split <;> rfl
theorem Sp.zeros {W : World} {b : Nat} (k : Int) (h : W.there b 0 27) : Sp (W.setCells b 0 [.int .i64 k, .int .u64 0, .int .u64 0, .int .u64 0, .int .u64 0, .int .u64 0, .int .u64 0, .int .u64 0, .int .u64 0, .int .u64 0, .int .u64 0, .int .u64 0, .int .u64 0, .int .u64 0, .int .u64 0, .int .u64 0, .int .u64 0, .int .u64 0, .int .u64 0, .int .u64 0, .int .u64 0, .int .u64 0, .int .u64 0, .int .u64 0, .int .u64 0, .int .u64 0, .int .i64 0]) b k (List.replicate 25 0) 0 := by
  have r := World.rangeAt_setCells_same W b 0 [.int .i64 k, .int .u64 0, .int .u64 0, .int .u64 0, .int .u64 0, .int .u64 0, .int .u64 0, .int .u64 0, .int .u64 0, .int .u64 0, .int .u64 0, .int .u64 0, .int .u64 0, .int .u64 0, .int .u64 0, .int .u64 0, .int .u64 0, .int .u64 0, .int .u64 0, .int .u64 0, .int .u64 0, .int .u64 0, .int .u64 0, .int .u64 0, .int .u64 0, .int .u64 0, .int .i64 0] h
  have z : V 0#64 = 0 := V_zero
  refine ⟨by simp, ?_, fun i hi => ?_, ?_, fun i hi => ?_⟩
  · exact r 0 _ rfl
  · have hi' : i < 25 := by simpa using hi
    rw [rep_getD]
    have e : ([.int .i64 k, .int .u64 0, .int .u64 0, .int .u64 0, .int .u64 0, .int .u64 0, .int .u64 0, .int .u64 0, .int .u64 0, .int .u64 0, .int .u64 0, .int .u64 0, .int .u64 0, .int .u64 0, .int .u64 0, .int .u64 0, .int .u64 0, .int .u64 0, .int .u64 0, .int .u64 0, .int .u64 0, .int .u64 0, .int .u64 0, .int .u64 0, .int .u64 0, .int .u64 0, .int .i64 0] : List Value) = .int .i64 k :: (List.replicate 25 (.int .u64 0) ++ [.int .i64 0]) := rfl
    have := r (1 + i) (.int .u64 0) (by rw [e, Nat.add_comm 1 i, List.getElem?_cons_succ, List.getElem?_append_left (by simpa using hi'), List.getElem?_replicate, if_pos hi'])
    rw [Nat.zero_add] at this
    rw [this]
    exact congrArg (fun z => some (Value.int .u64 z)) z.symm
  · exact r 26 _ rfl
  · rw [World.frozen?_setCells]
    have := (h i hi).2
    rwa [Nat.zero_add] at this

theorem Hsh.off {w w' : World} {a b : Nat} {M : List (BitVec 8)} (h : Hsh w a M) (o : Off b w w') (ne : a ≠ b) : Hsh w' a M :=
  ⟨h.1, fun i hi => o.cell ne (h.2.1 i hi), fun i hi => by rw [World.frozen?_of_block (o.block a h.lt ne)]; exact h.2.2 i hi⟩

/-- A new sponge's block. -/
theorem fresh_sponge {W : World} {b : Nat} (e : b = W.heap.size) : (W.alloc (.cells #[.int .i64 0, .int .u64 0, .int .u64 0, .int .u64 0, .int .u64 0, .int .u64 0, .int .u64 0, .int .u64 0, .int .u64 0, .int .u64 0, .int .u64 0, .int .u64 0, .int .u64 0, .int .u64 0, .int .u64 0, .int .u64 0, .int .u64 0, .int .u64 0, .int .u64 0, .int .u64 0, .int .u64 0, .int .u64 0, .int .u64 0, .int .u64 0, .int .u64 0, .int .u64 0, .int .i64 0] 60)).there b 0 27 := by
  subst e
  intro j hj
  rw [Nat.zero_add, World.cell?_alloc_mark]
  refine ⟨?_, by simp [go_sem]⟩
  have : (#[.int .i64 0, .int .u64 0, .int .u64 0, .int .u64 0, .int .u64 0, .int .u64 0, .int .u64 0, .int .u64 0, .int .u64 0, .int .u64 0, .int .u64 0, .int .u64 0, .int .u64 0, .int .u64 0, .int .u64 0, .int .u64 0, .int .u64 0, .int .u64 0, .int .u64 0, .int .u64 0, .int .u64 0, .int .u64 0, .int .u64 0, .int .u64 0, .int .u64 0, .int .u64 0, .int .i64 0] : Array Value)[j]?.isSome = true := by simp; omega
  exact this
theorem fresh_sponge2 {W : World} {b : Nat} (k : Int) (e : b = W.heap.size) : (W.alloc (.cells #[.int .i64 0, .int .u64 0, .int .u64 0, .int .u64 0, .int .u64 0, .int .u64 0, .int .u64 0, .int .u64 0, .int .u64 0, .int .u64 0, .int .u64 0, .int .u64 0, .int .u64 0, .int .u64 0, .int .u64 0, .int .u64 0, .int .u64 0, .int .u64 0, .int .u64 0, .int .u64 0, .int .u64 0, .int .u64 0, .int .u64 0, .int .u64 0, .int .u64 0, .int .u64 0, .int .i64 0] 60)).there b 0 ([.int .i64 k, .int .u64 0, .int .u64 0, .int .u64 0, .int .u64 0, .int .u64 0, .int .u64 0, .int .u64 0, .int .u64 0, .int .u64 0, .int .u64 0, .int .u64 0, .int .u64 0, .int .u64 0, .int .u64 0, .int .u64 0, .int .u64 0, .int .u64 0, .int .u64 0, .int .u64 0, .int .u64 0, .int .u64 0, .int .u64 0, .int .u64 0, .int .u64 0, .int .u64 0, .int .i64 0] : List Value).toArray.size := fresh_sponge e
theorem sponge_size (k : Int) : (Tryd.prog.info? 60).map (·.size) = some ([.int .i64 k, .int .u64 0, .int .u64 0, .int .u64 0, .int .u64 0, .int .u64 0, .int .u64 0, .int .u64 0, .int .u64 0, .int .u64 0, .int .u64 0, .int .u64 0, .int .u64 0, .int .u64 0, .int .u64 0, .int .u64 0, .int .u64 0, .int .u64 0, .int .u64 0, .int .u64 0, .int .u64 0, .int .u64 0, .int .u64 0, .int .u64 0, .int .u64 0, .int .u64 0, .int .i64 0] : List Value).toArray.size := by
  have : (Tryd.prog.info? 60).map (·.size) = some 27 := by kernel_rfl
  rw [this]
  rfl
theorem sponge_ones (k : Int) : ([.int .i64 k, .int .u64 0, .int .u64 0, .int .u64 0, .int .u64 0, .int .u64 0, .int .u64 0, .int .u64 0, .int .u64 0, .int .u64 0, .int .u64 0, .int .u64 0, .int .u64 0, .int .u64 0, .int .u64 0, .int .u64 0, .int .u64 0, .int .u64 0, .int .u64 0, .int .u64 0, .int .u64 0, .int .u64 0, .int .u64 0, .int .u64 0, .int .u64 0, .int .u64 0, .int .i64 0] : List Value).toArray.all (·.oneCell') = true := all_oneCell_toArray (by
  intro v hv
  simp only [List.mem_cons, List.not_mem_nil, or_false] at hv
  rcases hv with rfl | hv
  · rfl
  · repeat (first | (rcases hv with rfl | hv; rfl) | (subst hv; rfl)))

end Go.Proofs.YtcjabligkeaafaaDoor.K
