import Derived.Test.YtdehcohfcbopkaaBmE
/- BloomSets: the law. -/
namespace Go.Proofs.Ytdehcohfcbopkaa
open Go.RowKit Go.Sort

/-- The mark behind the list. -/
def markF : List (BitVec 8) := 164 :: List.replicate 255 0
theorem markF_len : markF.length = 256 := by rw [markF, List.length_cons, List.length_replicate]
theorem byts_mark : byts markF = .int .u8 164 :: List.replicate 255 (Value.int .u8 0) := by
  have e : byts (List.replicate 255 (0 : BitVec 8)) = List.replicate 255 (Value.int .u8 0) := by
    rw [byts, List.map_replicate, show Y (0 : BitVec 8) = 0 from Y_zero]
  rw [markF, byts, List.map_cons, ← byts, e, show Y (164 : BitVec 8) = 164 by rw [Y_eq]; rfl]
theorem built_mark : Try.prog.built 24 [(0, .int .u8 164)] = some (byts markF).toArray := by
  rw [byts_mark]; kernel_rfl
theorem wp_build_mark {o : Oper} {a : Act} {w : World} {K : Act → World → Prop} {Q : Exit → Act → World → Prop} (ho : o.op = .build 24 #[(0, .const (.int .u8 164))])
    (h : K (a.put o.dst (.agg (byts markF).toArray)) w) : o.wp Try.prog a w K Q := by
  have e : ((#[(0, Operand.const (.int .u8 164))] : Array (Nat × Operand)).map fun (i, x) => (i, a.eval x)).toList = [(0, .int .u8 164)] := by simp [Act.eval]
  refine wp_build _ _ ho (by rw [e, built_mark]; rfl) ?_
  rw [e, built_mark]
  exact h
theorem wpList_build_mark {ops : Array Oper} {rest : List Oper} {o : Oper} {a : Act} {w : World} {Q : Exit → Act → World → Prop} (hg : o.guard = none) (ho : o.op = .build 24 #[(0, .const (.int .u8 164))])
    (h : wpList Try.prog ops Q rest (a.put o.dst (.agg (byts markF).toArray)) w) : wpList Try.prog ops Q (o :: rest) a w :=
  wpList_plain hg fun _ hK => wp_build_mark ho (hK _ _ h)
theorem cell_of {W : World} {g i : Nat} {cs : List Value} {t : TypeId} {v : Value} (h : W.heap[g]? = some (.cells cs.toArray t (0, 0))) (hv : cs[i]? = some v) : W.cell? ⟨g, i, none⟩ = some v := by
  simp [World.cell?, h, hv]
theorem wpList_build_markN {MB : List Value} (hM : Hid (MB = byts markF)) {ops : Array Oper} {rest : List Oper} {o : Oper} {a : Act} {w : World} {Q : Exit → Act → World → Prop} (hg : o.guard = none) (ho : o.op = .build 24 #[(0, .const (.int .u8 164))])
    (h : wpList Try.prog ops Q rest (a.put o.dst (.agg MB.toArray)) w) : wpList Try.prog ops Q (o :: rest) a w := by
  obtain rfl := hM.out
  exact wpList_build_mark hg ho h
/-- A list of filters with the mark behind it. -/
def Lst (W : World) (g : Nat) (FS : List (List (BitVec 8))) : Prop := Fls W g 0 FS ∧ W.rangeAt g (FS.length * 256) (byts markF) ∧ g < W.heap.size
theorem Lst.keep {W w1 : World} {g : Nat} {FS : List (List (BitVec 8))} (h : Lst W g FS) (hb : Below W.heap.size W w1) : Lst w1 g FS := ⟨h.1.keep hb, fun j v hv => cell_keep hb (h.2.1 j v hv), Nat.lt_of_lt_of_le h.2.2 hb.size⟩
theorem lst_of {W : World} {g : Nat} {FS : List (List (BitVec 8))} (hl : ∀ F ∈ FS, F.length = 256) (h : W.heap[g]? = some (.cells (splice (List.replicate ((FS.length + 1) * 256) (Value.int .u8 0)) 0 (FS.flatMap byts)).toArray 24 (0, 0))) :
    W.there g (FS.length * 256) 256 ∧ Lst (W.setCells g (FS.length * 256) (byts markF)) g FS := by
  have fl := flat_len FS hl
  have tot : (splice (List.replicate ((FS.length + 1) * 256) (Value.int .u8 0)) 0 (FS.flatMap byts)).length = (FS.length + 1) * 256 := by
    rw [length_splice _ _ _ (by rw [fl, List.length_replicate]; omega), List.length_replicate]
  have gl : g < W.heap.size := (Array.getElem?_eq_some_iff.1 h).1
  have T : W.there g (FS.length * 256) 256 := fun j hj => by
    refine ⟨?_, by simp [World.frozen?, h]⟩
    have : FS.length * 256 + j < (splice (List.replicate ((FS.length + 1) * 256) (Value.int .u8 0)) 0 (FS.flatMap byts)).length := by rw [tot]; omega
    simp [World.cell?, h, this]
  refine ⟨T, ?_, ?_, ?_⟩
  · intro k hk
    have e : FS.getD k zF = FS[k] := by rw [List.getD, List.getElem?_eq_getElem hk]; rfl
    have lk : (FS.getD k zF).length = 256 := by rw [e]; exact hl _ (List.getElem_mem hk)
    refine ⟨lk, fun j v hv => ?_⟩
    have hj : j < 256 := by
      have := (List.getElem?_eq_some_iff.1 hv).1
      rwa [byts_len, lk] at this
    have q : k * 256 + j < FS.length * 256 := by omega
    rw [Nat.zero_add, World.cell?_setCells_out _ _ _ _ _ (fun _ _ => .inl q)]
    have f := flat_at hj FS k hl hk
    rw [hv] at f
    have hs : (splice (List.replicate ((FS.length + 1) * 256) (Value.int .u8 0)) 0 (FS.flatMap byts))[k * 256 + j]? = some v := by
      rw [splice, List.take_zero, List.nil_append, List.getElem?_append_left (by rw [fl]; exact q), f]
    exact cell_of h hs
  · exact World.rangeAt_setCells_same _ _ _ _ (by rw [byts_len, markF_len]; exact T)
  · exact Nat.lt_of_lt_of_le gl (below_setCells (Nat.zero_le g) _ _ W (Below.refl 0 W)).size
theorem Blm.block {W w1 : World} {b : Nat} {M : List (BitVec 8)} (h : Blm W b M) (e : w1.heap[b]? = W.heap[b]?) : Blm w1 b M :=
  ⟨h.1, fun j hj => by rw [World.cell?_of_block (w := W) (a := ⟨b, j, none⟩) e]; exact h.2.1 j hj, fun j hj => by rw [World.frozen?_of_block (w := W) (a := ⟨b, j, none⟩) e]; exact h.2.2 j hj⟩
theorem heap_at {W : World} {o : Obj} {g : Nat} (e : g = W.heap.size) : (W.alloc o).heap[g]? = some o := by subst e; exact heap_new _ _
/-- The place of a filter in a list. -/
theorem wp_index_bloom {o : Oper} {a : Act} {w : World} {K : Act → World → Prop} {Q : Exit → Act → World → Prop} (x y : Operand) (ho : o.op = .indexAddr 22 x y)
    (g off len cap i p : Nat) (hx : a.eval x = .slice (some ⟨g, off, none⟩) len cap) (hy : a.eval y = .int .i64 (i : Int)) (hi : i < len) (hp : p = off + i * 256)
    (h : K (a.put o.dst (.pointer (some ⟨g, p, none⟩))) w) : o.wp Try.prog a w K Q := by
  subst hp
  have tz : (sizeOf 24).run Try.prog w = .ok 256 w := by have := Try.sizeOf24; simp [go_sem, this]
  have h1 : (0 : Int) ≤ (i : Int) ∧ (i : Int) < (len : Int) := by omega
  have hr : (Instr.indexAt 22 (.slice (some ⟨g, off, none⟩) len cap) (.int .i64 (i : Int))).run Try.prog w = .ok (.pointer (some ⟨g, off + i * 256, none⟩)) w := by
    unfold Instr.indexAt
    simp only [Sem.run_bind, asIntOf, Sem.run_pure, Result.andThen_ok, run_underlying Try.underlying22]
    rw [if_pos h1]
    simp [tz, Addr.add_mid]
  unfold Oper.wp
  simp [execOp, ho, hx, hy, hr, Result.andThen]
  exact h
theorem wpList_index_bloom {ops : Array Oper} {rest : List Oper} {o : Oper} {a : Act} {w : World} {Q : Exit → Act → World → Prop} (hg : o.guard = none) (x y : Operand) (ho : o.op = .indexAddr 22 x y)
    (g off len cap i p : Nat) (hx : a.eval x = .slice (some ⟨g, off, none⟩) len cap) (hy : a.eval y = .int .i64 (i : Int)) (hi : i < len) (hp : p = off + i * 256)
    (h : wpList Try.prog ops Q rest (a.put o.dst (.pointer (some ⟨g, p, none⟩))) w) : wpList Try.prog ops Q (o :: rest) a w :=
  wpList_plain hg fun _ hK => wp_index_bloom x y ho g off len cap i p hx hy hi hp (hK _ _ h)
end Go.Proofs.Ytdehcohfcbopkaa
