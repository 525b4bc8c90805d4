import Derived.Test.YtncpjgpioajbeaaGreatDoorSRDig
import Derived.Test.YtncpjgpioajbeaaGreatDoorSRJoin
import Derived.Test.YtncpjgpioajbeaaGreatDoorSHmac
import Derived.Test.YtncpjgpioajbeaaGreatDoorCut
/- The document's bytesOf; two lists that are gathered beside one another. -/
namespace Go.Proofs.YtncpjgpioajbeaaGreatDoor.S
open Go.RowKit Go.Sort

theorem Own.keptH {B : Nat} {W W' : World} {v : Value} {X : List (BitVec 8)} {row : Option Nat} (h : Own B W v X) (hg : W.grownBy W' row) (hn : ∀ k, v.ownBlock = some k → row ≠ some k) : Own B W' v X :=
  World.ownsRow.kept h hg (by
    cases hd : v.ownBlock with
    | none => exact .inl rfl
    | some k => exact .inr fun e => hn k hd e.symm)
theorem grownH {W W' : World} (h : Below W.heap.size W W') (row : Option Nat) : W.grownBy W' row := ⟨h.os, h.tape, h.output, h.size, fun k hk _ => h.block k hk⟩
theorem Own.keepH {B : Nat} {W W' : World} {v : Value} {X : List (BitVec 8)} (h : Own B W v X) (hb : Below W.heap.size W W') : Own B W' v X := h.keptH (grownH hb none) (fun _ _ e => by cases e)
theorem Own.allocH {B : Nat} {W : World} {v : Value} {X : List (BitVec 8)} (h : Own B W v X) (o : Obj) : Own B (W.alloc o) v X := h.keepH ((Below.refl _ _).alloc (Nat.le_refl _) o)
theorem Own.baseH {B B' : Nat} {W : World} {v : Value} {X : List (BitVec 8)} (h : Own B W v X) (hB : B' ≤ B) : Own B' W v X := by
  refine ⟨h.1, ?_⟩
  rcases h.2 with h | ⟨g, cap, cur, rfl, hb, r⟩
  · exact .inl h
  · exact .inr ⟨g, cap, cur, rfl, by omega, r⟩
theorem Own.liesH {B : Nat} {W : World} {v : Value} {X : List (BitVec 8)} (h : Own B W v X) : ∃ a g c, v = .slice a X.length c ∧ At a g 0 X ∧ Byo W g 0 X ∧ X.length ≤ c := by
  rcases h.2 with ⟨e, hx⟩ | ⟨g, cap, cur, e, _, _, hle, _⟩
  · exact ⟨none, 0, 0, by rw [e, hx], .inl (List.eq_nil_of_length_eq_zero hx), fun i hi => absurd hi (by omega), by omega⟩
  · refine ⟨_, g, cap, e, .inr rfl, fun i hi => ?_, hle⟩
    subst e
    rw [Nat.zero_add, h.row.cellAt i (by omega)]
    simp [byts, List.getD, hi]
set_option maxRecDepth 100000 in
set_option maxHeartbeats 4000000 in
theorem rbytesOf_any {M : List (BitVec 8)} (hM : M.length = 32) (w : World) :
    Calls Tryz.prog 138 #[.agg (byts M).toArray] w fun e w' => ∃ v, e = .returned v ∧ Own w.heap.size w' v M ∧ Below w.heap.size w w' := by
  obtain ⟨i0, hi, hz0, hz1, hz2⟩ := info_parts info_byte
  have HZ : Hid (Tryz.prog.info? 5 = some i0 ∧ i0.zero = some (.int .u8 0) ∧ i0.size = 1 ∧ i0.bytes = 1) := ⟨hi, hz0, hz1, hz2⟩
  have HM : Hid (M.length = 32) := hM
  have HN : Hid (∀ t, Hsh (w.alloc (.cells (byts M).toArray t)) w.heap.size M) := fun t => Hsh.new hM t rfl
  clear hi hz0 hz1 hz2 hM
  obtain ⟨N, eN⟩ : ∃ N, N = (byts M).toArray := ⟨_, rfl⟩
  rw [← eN] at HN ⊢
  clear eN
  go_enter Tryz.func138, Tryz.ntmps138
  refine wp_seq_k fun K0 kk => ?_
  have H0 : Hid _ := kk
  clear kk
  go_wp2_with fail
  refine H0.out _ _ ?_
  clear H0
  refine wp_world (fun W => Hsh W w.heap.size M ∧ Below w.heap.size w W ∧ w.heap.size < W.heap.size) ⟨HN.out _, (Below.refl _ _).alloc (Nat.le_refl _) _, by simp⟩ ?_
  rintro W hW
  have HW : Hid (Hsh W w.heap.size M ∧ Below w.heap.size w W ∧ w.heap.size < W.heap.size) := hW
  clear hW HN
  go_wp2_with fail
  go_loopg [3, 4] 32 (fun k lv iv wr => ∃ i : Nat, k = 32 - i ∧ i ≤ 32 ∧ iv = .int .i64 i ∧ Own W.heap.size wr lv (M.take i) ∧ Below w.heap.size w wr ∧ Hsh wr w.heap.size M ∧ W.heap.size ≤ wr.heap.size)
  case atStart => exact ⟨0, rfl, by decide, rfl, own_nil, HW.out.2.1, HW.out.1, Nat.le_refl _⟩
  case round =>
    obtain ⟨i, hk, hi9, rfl, hown, hB, hH, hS⟩ := hrel
    have HK : Hid (gk = 32 - i) := hk
    have HF : Hid (Own W.heap.size wr u3 (M.take i) ∧ Below w.heap.size w wr ∧ Hsh wr w.heap.size M ∧ W.heap.size ≤ wr.heap.size) := ⟨hown, hB, hH, hS⟩
    clear hk hown hB hH hS
    by_cases h8 : i = 32
    · subst h8
      have HR : Hid (M.take 32 = M) := by rw [← HM.out]; exact List.take_length
      go_wp2
      go_ret
      exact ⟨_, rfl, by have h := HF.out.1; rw [HR.out] at h; exact h.baseH (by have := HW.out.2.2; omega), HF.out.2.1⟩
    · have hlt : i < 32 := by omega
      have hlt' : (i : Int) < (32 : Int) := by omega
      have gx := HF.out.2.2.1.2.1 i hlt
      have NK : Hid (M.take (i + 1) = M.take i ++ [M.getD i 0]) := take_snoc (by rw [HM.out]; exact hlt)
      have LR : Hid ((M.take i).length < 1073741824) := by rw [List.length_take]; show _ < _; omega
      generalize M.getD i 0 = x at *
      go_wp2_with ((at_builtin; go_loud (refine wpList_append_own_at _ rfl _ _ 76 rfl W.heap.size 5 i0 (.int .u8 0) 1 1 Tryz.underlying76 HZ.out.1 HZ.out.2.1 HZ.out.2.2.1 HZ.out.2.2.2 rfl (by decide) u3 _ _ rfl (HF.out.1.row.alloc _) ⟨wr.heap.size, 0, none⟩ 1 1 [.int .u8 (Y x)] rfl rfl (cell_one_new _ _ _) (fun u hu => by simp at hu; subst hu; rfl) (by unfold maxLen; have := LR.out; omega) (by have := LR.out; omega) (by have := HF.out.2.2.2; simp; omega) ?_); intro v' w3 hown' hgrow3 hnil3 hblk))
      have HO : Hid (Own W.heap.size w3 v' (M.take (i + 1)) ∧ Below w.heap.size w w3 ∧ Hsh w3 w.heap.size M ∧ W.heap.size ≤ w3.heap.size) := by
        have hlt3 : ∀ k, u3.ownBlock = some k → W.heap.size ≤ k := fun k hk => (HF.out.1.row.lt k hk).1
        have hbw := HW.out.2.2
        refine ⟨?_, ?_, ?_, ?_⟩
        · rw [NK.out, Own, List.length_append, ← byts_snoc]
          exact hown'
        · exact (HF.out.2.1.alloc HF.out.2.1.size _).grown hgrow3 (by have := HF.out.2.1.size; simp; omega) (fun k hk => by have := hlt3 k hk; omega)
        · have hH := HF.out.2.2.1.alloc (.cells #[.int .u8 (Y x)] 5)
          have hs := hgrow3.block w.heap.size (by simp; have := HF.out.2.2.2; omega) (fun e => by have := hlt3 _ e.symm; omega)
          exact ⟨hH.1, fun j hj => by rw [World.cell?_of_block (a := ⟨w.heap.size, j, none⟩) hs]; exact hH.2.1 j hj, fun j hj => by rw [World.frozen?_of_block (a := ⟨w.heap.size, j, none⟩) hs]; exact hH.2.2 j hj⟩
        · have h1 := hgrow3.size
          have h2 := HF.out.2.2.2
          simp at h1
          omega
      clear hown' hgrow3 hnil3 hblk
      go_roundg (32 - (i + 1))
      case measure => have := HK.out; omega
      case rel => exact ⟨i + 1, rfl, by omega, by go_num, HO.out⟩
/-- A block that others leave as it was. -/
theorem Hsh.sameH {W W' : World} {b : Nat} {M : List (BitVec 8)} (h : Hsh W b M) (e : W'.heap[b]? = W.heap[b]?) : Hsh W' b M :=
  ⟨h.1, fun j hj => by rw [World.cell?_of_block (a := ⟨b, j, none⟩) e]; exact h.2.1 j hj, fun j hj => by rw [World.frozen?_of_block (a := ⟨b, j, none⟩) e]; exact h.2.2 j hj⟩
/-- The key's block and two lists. -/
structure Tw (w W : World) (br : Nat) (b0 : Nat) (kv iv ov : Value) (K I O : List (BitVec 8)) : Prop where
  B : RowKit.Below w.heap.size w W
  h : Hsh W br (List.replicate 32 0)
  lo : br < b0
  hi : b0 ≤ W.heap.size
  lw : w.heap.size ≤ b0
  k : Own b0 W kv K
  i : Own b0 W iv I
  o : Own b0 W ov O
  ki : ∀ b, kv.ownBlock = some b → iv.ownBlock ≠ some b
  ko : ∀ b, kv.ownBlock = some b → ov.ownBlock ≠ some b
  io : ∀ b, iv.ownBlock = some b → ov.ownBlock ≠ some b
theorem Tw.swap {w W : World} {br b0 : Nat} {kv iv ov : Value} {K I O : List (BitVec 8)} (t : Tw w W br b0 kv iv ov K I O) : Tw w W br b0 kv ov iv K O I :=
  ⟨t.B, t.h, t.lo, t.hi, t.lw, t.k, t.o, t.i, t.ko, t.ki, fun b hb e => t.io b e hb⟩
theorem Tw.push {w W W' : World} {br b0 : Nat} {kv iv ov iv' : Value} {K I O : List (BitVec 8)} {x : BitVec 8} {z : Obj} (t : Tw w W br b0 kv iv ov K I O) (hown : W'.ownsRow b0 5 1 iv' (I.length + 1) (byts I ++ [.int .u8 (Y x)]))
    (hg : (W.alloc z).grownBy W' iv.ownBlock) (hblk : iv'.ownBlock = iv.ownBlock ∨ iv'.ownBlock = some (W.alloc z).heap.size) : Tw w W' br b0 kv iv' ov K (I ++ [x]) O := by
  have lti : ∀ b, iv.ownBlock = some b → b0 ≤ b ∧ b < W.heap.size := fun b hb => t.i.row.lt b hb
  have ltk : ∀ b, kv.ownBlock = some b → b0 ≤ b ∧ b < W.heap.size := fun b hb => t.k.row.lt b hb
  have lto : ∀ b, ov.ownBlock = some b → b0 ≤ b ∧ b < W.heap.size := fun b hb => t.o.row.lt b hb
  have sz : (W.alloc z).heap.size = W.heap.size + 1 := by simp
  have hB := t.B.alloc t.B.size z
  refine ⟨hB.grown hg (by have := t.B.size; omega) (fun k hk => by have := lti k hk; have := t.lw; omega), (t.h.alloc z).sameH (hg.block br (by have := t.lo; have := t.hi; omega) (fun e => by have := lti _ e.symm; have := t.lo; omega)), t.lo, by have := hg.size; have := t.hi; omega, t.lw, (t.k.allocH z).keptH hg (fun b hb e => t.ki b hb e), ?_, (t.o.allocH z).keptH hg (fun b hb e => t.io b e hb), ?_, t.ko, ?_⟩
  · rw [Own, List.length_append, ← byts_snoc]; exact hown
  · intro b hb e
    rcases hblk with h | h
    · exact t.ki b hb (by rw [← h]; exact e)
    · rw [h] at e; have := Option.some.inj e; have := ltk b hb; omega
  · intro b hb e
    rcases hblk with h | h
    · exact t.io b (by rw [← h]; exact hb) e
    · rw [h] at hb; have := Option.some.inj hb; have := lto b e; omega
end Go.Proofs.YtncpjgpioajbeaaGreatDoor.S
