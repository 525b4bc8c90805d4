import Derived.Test.YtndefnomefdhoaaBmC
/- BloomMakes: the law. -/
namespace Go.Proofs.Ytndefnomefdhoaa
open Go.RowKit Go.Sort

def vals (L : List Int) : List Value := L.map (Value.int .i64)
theorem vals_len (L : List Int) : (vals L).length = L.length := by simp [vals]
/-- Ints in a block of one's own. -/
def IxR (W : World) (g : Nat) (T : List Int) : Prop := Ixs W g 0 T ∧ Loose W g T.length
theorem IxR.keep {W w1 : World} {g : Nat} {T : List Int} (h : IxR W g T) (hl : g < W.heap.size) (hb : Below W.heap.size W w1) : IxR w1 g T := ⟨h.1.keep hb, h.2.keep hb hl⟩
theorem ixR_of {W : World} {g : Nat} {T : List Int} {t : TypeId} (h : W.heap[g]? = some (.cells (vals T).toArray t (0, 0))) : IxR W g T := by
  refine ⟨fun i hi => ?_, fun i _ => frozen_of_row W g i _ t h⟩
  rw [Nat.zero_add, cell_of_row W g i _ t _ h]
  simp [vals, List.getD, hi]
theorem IxR.set {W : World} {g : Nat} {T : List Int} (h : IxR W g T) (i : Nat) (hi : i < T.length) (v : Int) : IxR (W.setCell ⟨g, i, none⟩ (.int .i64 v)) g (T.set i v) := by
  refine ⟨fun j hj => ?_, by rw [List.length_set]; exact h.2.set _ _⟩
  rw [List.length_set] at hj
  rw [Nat.zero_add]
  have hc := h.1 j hj
  rw [Nat.zero_add] at hc
  by_cases e : i = j
  · subst e
    rw [World.cell?_setCell_same _ _ _ hc]
    simp [List.getD, hi]
  · have ne : (⟨g, i, none⟩ : Addr) ≠ ⟨g, j, none⟩ := by first | (simp; done) | (simp; omega)
    rw [World.cell?_setCell_other _ _ _ _ ne, hc]
    simp [List.getD, List.getElem?_set_ne e]
theorem IxR.cell {W : World} {g : Nat} {T : List Int} (h : IxR W g T) {i : Nat} (hi : i < T.length) : W.cell? ⟨g, i, none⟩ = some (.int .i64 (T.getD i 0)) := by
  have := h.1 i hi
  rwa [Nat.zero_add] at this
theorem IxR.front {W : World} {g : Nat} {L M : List Int} (h : IxR W g (L ++ M)) : Ixs W g 0 L := fun i hi => by
  have := h.1 i (by rw [List.length_append]; omega)
  rw [this, List.getD, List.getElem?_append_left hi, ← List.getD]
theorem IxR.far {W : World} {b' g i : Nat} {v : Value} {T : List Int} (h : IxR W g T) (ne : b' ≠ g) : IxR (W.setCell ⟨b', i, none⟩ v) g T := ⟨fun j hj => by rw [World.cell?_setCell_far _ _ _ _ ne]; exact h.1 j hj, h.2.set _ _⟩
theorem IxR.farCells {W : World} {b' g o : Nat} {T : List Int} (h : IxR W g T) (ne : b' ≠ g) (cs : List Value) : IxR (W.setCells b' o cs) g T := ⟨fun j hj => by rw [World.cell?_setCells_out _ _ _ _ _ (fun e => absurd e.symm ne)]; exact h.1 j hj, h.2.setCells _ _ _⟩
theorem info_int : (Try.prog.info? 3).map (fun i => (i.zero, i.size, i.bytes)) = some (some (.int .i64 0), 1, 8) := by kernel_rfl
/-- 'make([]T, n, m)'. -/
theorem wpList_make_8 {P : Program} (w : World) {ops : Array Oper} {rest : List Oper} {o : Oper} {a : Act} {Q : Exit → Act → World → Prop}
    (hg : o.guard = none) (l c : Operand) (t : TypeId) (hop : o.op = Op.makeSlice t l c)
    (e : TypeId) (i : TypeInfo) (z : Value) (ht : P.underlying t = some (.slice e)) (hi : P.info? e = some i) (hz : i.zero = some z) (hsize : i.size = 1) (hz1 : z.cells = #[z]) (hby : i.bytes = 8)
    (kl kc : IntKind) (L C : Int) (n m : Nat) (hl : a.eval l = .int kl L) (hc : a.eval c = .int kc C) (eL : L = (n : Int)) (eC : C = (m : Int)) (hnm : n ≤ m) (hm : 8 * m ≤ 281474976710656)
    (hK : wpList P ops Q rest (a.put o.dst (.slice (some ⟨w.heap.size, 0, none⟩) n m)) (w.alloc (.cells (madeCells #[z] m) e))) :
    wpList P ops Q (o :: rest) a w := by
  subst eL eC
  refine wpList_plain hg fun K hK' => ?_
  have hr := run_make (P := P) w t e i z ht hi hz kl kc n m (by omega) (by omega) (by rw [hby]; omega) (by omega)
  simp only [Int.toNat_natCast, hsize, Nat.mul_one, hz1] at hr
  unfold Oper.wp
  simp [execOp, hop, hl, hc, hr, Result.andThen]
  exact hK' _ _ hK
theorem made_ints (n : Nat) : madeCells #[Value.int .i64 0] n = (List.replicate n (Value.int .i64 0)).toArray := by
  have := toList_madeCells_one (Value.int .i64 0) n
  apply Array.toList_inj.1
  rw [this]
theorem splice_vals (L : List Int) (k : Nat) : splice (List.replicate (L.length + k) (Value.int .i64 0)) 0 (vals L) = vals (L ++ List.replicate k 0) := by
  simp [splice, vals, List.drop_replicate]
theorem ints_src {a : Option Addr} {bd od g : Nat} {L : List Int} {w w1 : World} (ha : AtI a bd od L) (hX : Ixs w bd od L) (B : Below w.heap.size w w1) :
    0 < (vals L).length → (some (⟨g, 0, none⟩ : Addr)) = some ⟨g, 0, none⟩ ∧ ∃ ad, a = some ad ∧ ∀ j v, (vals L)[j]? = some v → w1.cell? (ad.add j) = some v := by
  intro h0
  refine ⟨rfl, ?_⟩
  rcases ha with h | h
  · rw [h] at h0; simp [vals] at h0
  · refine ⟨_, h, fun j v hv => ?_⟩
    unfold vals at hv
    rw [List.getElem?_map] at hv
    obtain ⟨x, hx, rfl⟩ := Option.map_eq_some_iff.1 hv
    have hj : j < L.length := (List.getElem?_eq_some_iff.1 hx).1
    have hc := hX j hj
    rw [Addr.add_mid, B.cell (p := ⟨bd, od + j, none⟩) (World.block_lt_of_cell? w _ hc), hc]
    simp [List.getD, hx]
/-- The list written over, so far. -/
def sevs (L : List Int) (i : Nat) : List Int := ((List.range i).map fun k : Nat => 7 * (k : Int)) ++ (L.drop i ++ [-164])
theorem sevs_0 (L : List Int) : sevs L 0 = L ++ [-164] := by simp [sevs]
theorem sevs_len {L : List Int} {i : Nat} (h : i ≤ L.length) : (sevs L i).length = L.length + 1 := by simp [sevs]; omega
theorem sevs_set {L : List Int} {i : Nat} (h : i < L.length) : (sevs L i).set i (7 * (i : Int)) = sevs L (i + 1) := by
  rw [sevs, sevs, List.set_append_right _ _ (by simp), List.length_map, List.length_range, Nat.sub_self, List.drop_eq_getElem_cons h, List.cons_append, List.set_cons_zero, List.range_succ, List.map_append, List.append_assoc]
  rfl
theorem sevs_all (L : List Int) : sevs L L.length = ((List.range L.length).map fun k : Nat => 7 * (k : Int)) ++ [-164] := by simp [sevs]

set_option maxRecDepth 100000 in
set_option maxHeartbeats 16000000 in
theorem makes_any {a : Option Addr} {bp op cp : Nat} {L : List Int} (hn : L.length < 35184372088832) (ha : AtI a bp op L) (w : World) (hL : Ixs w bp op L) :
    Calls Try.prog 3 #[.slice a L.length cp] w fun e w' => e = .returned (.bool true) ∧ Below w.heap.size w w' := by
  have HH : Hid (Ixs w bp op L ∧ AtI a bp op L ∧ L.length < 35184372088832) := ⟨hL, ha, hn⟩
  have KL : Hid (∀ W, Below w.heap.size w W → Ixs W bp op L) := fun W B => hL.keep B
  have n1 : (L.length : Int) < 35184372088832 := by omega
  obtain ⟨i0, hi, hz0, hz1, hz2⟩ := info_parts info_int
  clear hn ha hL
  go_enter Try.func3, Try.ntmps3
  go_wp2_with (first
    | (at_make; refine wpList_make_8 _ rfl _ _ 22 rfl 3 i0 (.int .i64 0) Try.underlying22 hi hz0 hz1 rfl hz2 .i64 .i64 _ _ (L.length + 1) (L.length + 1) rfl rfl (by omega) (by omega) (Nat.le_refl _) (by have := HH.out.2.2; omega) ?_; rw [made_ints]; refine wpList_world (fun W => W.heap[w.heap.size]? = some (.cells (List.replicate (L.length + 1) (Value.int .i64 0)).toArray 3 (0, 0)) ∧ Below w.heap.size w W) ⟨heap_new _ _, (Below.refl _ _).alloc (Nat.le_refl _) _⟩ ?_; intro w1 h1; obtain ⟨hrow, B1⟩ := h1)
    | (refine wpList_copy_splice rfl _ _ 22 22 rfl 3 Try.underlying22 (by kernel_rfl) _ _ (L.length + 1) (L.length + 1) L.length cp rfl rfl w.heap.size 0 (List.replicate (L.length + 1) (Value.int .i64 0)) 3 hrow (vals L) (by rw [vals_len]; exact (Nat.min_eq_left (Nat.le_succ _)).symm) (ints_src HH.out.2.1 HH.out.1 B1) (by simp [vals_len]) (fun v hv => by obtain ⟨x, _, rfl⟩ := List.mem_map.1 hv; rfl) w.heap.size w B1 (Nat.le_refl _) ?_; intro w2 hrow2 B2; rw [splice_vals] at hrow2; clear hrow B1; have R2 : Hid (IxR w2 w.heap.size (L ++ [0])) := ixR_of hrow2.out; have g0 := R2.out.cell (i := L.length) (by simp); have f0 := R2.out.2 L.length (by simp); clear hrow2))
  refine calls_world (fun W => Below w.heap.size w W ∧ IxR W w.heap.size (L ++ [-164])) ⟨B2.setCell (Nat.le_refl _) _, ?_⟩ ?_
  · have h := R2.out.set L.length (by simp) (-164)
    rwa [List.set_append_right _ _ (Nat.le_refl _), Nat.sub_self] at h
  rintro W ⟨B, hI⟩
  have hlt := hI.cell (i := 0) (by simp)
  have gs : w.heap.size < W.heap.size := World.block_lt_of_cell? W _ hlt
  have S1 : Hid (Below w.heap.size w W ∧ IxR W w.heap.size (L ++ [-164])) := ⟨B, hI⟩
  have lF : (mkF L zF).1.length = 256 := mkF_len _ _ zF_len
  have mk1 := make_any (a := some ⟨w.heap.size, 0, none⟩) (bp := w.heap.size) (op := 0) (cp := L.length + 1) (by have := HH.out.2.2; omega) (.inr rfl) W hI.front
  obtain ⟨F, hF⟩ : ∃ F, F = (mkF L zF).1 := ⟨_, rfl⟩
  obtain ⟨x, hx⟩ : ∃ x, x = (mkF L zF).2 := ⟨_, rfl⟩
  have RM : Hid (∀ W, Below w.heap.size w W → Calls Try.prog 7 #[.slice a L.length cp] W fun e w' => e = .returned (.tuple #[.agg (byts F).toArray, .int .i64 x]) ∧ Below W.heap.size W w') := fun W B => by
    rw [hF, hx]; exact rmake_any (by have := HH.out.2.2; omega) HH.out.2.1 W (KL.out W B)
  rw [← hF] at lF mk1
  rw [← hx] at mk1
  have LF : Hid (F.length = 256) := lF
  clear B hI hlt R2 g0 f0 B2 hF hx lF
  have c0 : (L.length : Int) ≤ ((L.length + 1 : Nat) : Int) := by omega
  refine mk1.mono ?_
  clear mk1
  rintro e w3 ⟨rfl, hb⟩
  have S3 : Hid (Below w.heap.size w w3 ∧ IxR w3 w.heap.size (L ++ [-164]) ∧ w.heap.size < w3.heap.size) := ⟨S1.out.1.trans (hb.mono S1.out.1.size), S1.out.2.keep gs hb, Nat.lt_of_lt_of_le gs hb.size⟩
  clear hb S1 gs
  have ic := size_bloom LF.out
  have ia := size_bloomA LF.out
  have oc := one_byts F
  have sz : (byts F).toArray.size = 256 := by rw [List.size_toArray, byts_len, LF.out]
  have TH : ∀ W : World, ∀ t, (W.alloc (.cells (byts zF).toArray t)).there W.heap.size 0 (byts F).toArray.size := fun W t => by rw [sz]; exact (Blm.new zF_len t rfl).there
  have W4 : ∀ t, Hid (Below w.heap.size w ((w3.alloc (.cells (byts zF).toArray t)).setCells w3.heap.size 0 (byts F)) ∧ IxR ((w3.alloc (.cells (byts zF).toArray t)).setCells w3.heap.size 0 (byts F)) w.heap.size (L ++ [-164]) ∧ Blm ((w3.alloc (.cells (byts zF).toArray t)).setCells w3.heap.size 0 (byts F)) w3.heap.size F) := fun t => ⟨below_setCells S3.out.1.size _ 0 _ (S3.out.1.alloc S3.out.1.size _), (S3.out.2.1.keep S3.out.2.2 ((Below.refl _ _).alloc (Nat.le_refl _) _)).farCells (Nat.ne_of_gt S3.out.2.2) _, (Blm.new zF_len t rfl).stored LF.out⟩
  go_wp2_with (first | refine wpList_alloc_zero rfl 24 rfl _ zero_bloom ?_ | (refine wpList_store_mid rfl 24 _ _ rfl w3.heap.size 0 _ rfl rfl (TH _ _) ia oc ?_; refine wpList_world (fun W => Below w.heap.size w W ∧ IxR W w.heap.size (L ++ [-164]) ∧ Blm W w3.heap.size F) (W4 _).out ?_; clear W4; rintro W4 ⟨B4, I4, M4⟩))
  have S4 : Hid (Below w.heap.size w W4 ∧ IxR W4 w.heap.size (L ++ [-164]) ∧ Blm W4 w3.heap.size F ∧ w.heap.size < w3.heap.size) := ⟨B4, I4, M4, S3.out.2.2⟩
  clear B4 I4 M4 S3
  generalize w3.heap.size = b5 at *
  refine (RM.out W4 S4.out.1).mono ?_
  clear RM
  rintro e w5 ⟨rfl, hb⟩
  have S5 : Hid (Below w.heap.size w w5 ∧ IxR w5 w.heap.size (L ++ [-164]) ∧ Blm w5 b5 F ∧ w.heap.size < b5 ∧ b5 < w5.heap.size) := ⟨S4.out.1.trans (hb.mono S4.out.1.size), S4.out.2.1.keep (Nat.lt_trans S4.out.2.2.2 S4.out.2.2.1.lt) hb, S4.out.2.2.1.keep hb, S4.out.2.2.2, Nat.lt_of_lt_of_le S4.out.2.2.1.lt hb.size⟩
  clear hb S4
  have W6 : ∀ t, Hid (Below w.heap.size w ((w5.alloc (.cells (byts zF).toArray t)).setCells w5.heap.size 0 (byts F)) ∧ IxR ((w5.alloc (.cells (byts zF).toArray t)).setCells w5.heap.size 0 (byts F)) w.heap.size (L ++ [-164]) ∧ Blm ((w5.alloc (.cells (byts zF).toArray t)).setCells w5.heap.size 0 (byts F)) b5 F ∧ Blm ((w5.alloc (.cells (byts zF).toArray t)).setCells w5.heap.size 0 (byts F)) w5.heap.size F) := fun t => ⟨below_setCells S5.out.1.size _ 0 _ (S5.out.1.alloc S5.out.1.size _), (S5.out.2.1.keep (Nat.lt_trans S5.out.2.2.2.1 S5.out.2.2.2.2) ((Below.refl _ _).alloc (Nat.le_refl _) _)).farCells (Nat.ne_of_gt (Nat.lt_trans S5.out.2.2.2.1 S5.out.2.2.2.2)) _, (S5.out.2.2.1.alloc _).otherCells (Nat.ne_of_gt S5.out.2.2.2.2) _, (Blm.new zF_len t rfl).stored LF.out⟩
  have eqb := fun w => eq_bloom LF.out LF.out w
  rw [decide_eq_true rfl] at eqb
  go_wp2_with (first | refine wpList_alloc_zero rfl 24 rfl _ zero_bloom ?_ | (refine wpList_store_mid rfl 24 _ _ rfl w5.heap.size 0 _ rfl rfl (TH _ _) ia oc ?_; refine wpList_world (fun W => Below w.heap.size w W ∧ IxR W w.heap.size (L ++ [-164]) ∧ Blm W b5 F ∧ Blm W w5.heap.size F) (W6 _).out ?_; clear W6; rintro W6 ⟨B6, I6, M6, N6⟩; have S6 : Hid (Below w.heap.size w W6 ∧ IxR W6 w.heap.size (L ++ [-164]) ∧ Blm W6 b5 F ∧ Blm W6 w5.heap.size F ∧ w.heap.size < b5 ∧ b5 < w5.heap.size) := ⟨B6, I6, M6, N6, S5.out.2.2.2.1, S5.out.2.2.2.2⟩; have r5 := M6.range; have r7 := N6.range; clear B6 I6 M6 N6) | refine wpList_load_mid rfl 24 _ rfl b5 0 rfl (byts F) _ r5 Try.underlying24 rfl ic ?_ | refine wpList_load_mid rfl 24 _ rfl w5.heap.size 0 rfl (byts F) _ r7 Try.underlying24 rfl ic ?_)
  clear S5 r5 r7 TH
  generalize w5.heap.size = b7 at *
  refine (num_any W6).mono ?_
  rintro e w' ⟨rfl, rfl⟩
  go_wp2_with fail
  refine (equal_yes (a := some ⟨w.heap.size, 0, none⟩) (b := w.heap.size) (o := 0) (by have := HH.out.2.2; omega) (.inr rfl) HH.out.2.1 _ S6.out.2.1.front (KL.out _ S6.out.1)).mono ?_
  rintro e w7 ⟨rfl, hb⟩
  have I7 := S6.out.2.1.keep (Nat.lt_trans S6.out.2.2.2.2.1 S6.out.2.2.1.lt) hb
  have S7 : Hid (Below w.heap.size w w7 ∧ IxR w7 w.heap.size (L ++ [-164]) ∧ Blm w7 b5 F ∧ Blm w7 b7 F ∧ w.heap.size < b5 ∧ b5 < b7) := ⟨S6.out.1.trans (hb.mono S6.out.1.size), I7, S6.out.2.2.1.keep hb, S6.out.2.2.2.1.keep hb, S6.out.2.2.2.2.1, S6.out.2.2.2.2.2⟩
  have g0 := I7.cell (i := L.length) (by simp)
  rw [show (L ++ [(-164 : Int)]).getD L.length 0 = -164 by simp] at g0
  clear S6 hb I7
  go_wp2_with fail
  clear g0 eqb
  go_loopg [9] L.length (fun k iv wr => ∃ i : Nat, k = L.length - i ∧ i ≤ L.length ∧ iv = .int .i64 i ∧ Below w.heap.size w wr ∧ IxR wr w.heap.size (sevs L i) ∧ Blm wr b5 F ∧ Blm wr b7 F)
  case atStart => exact ⟨0, rfl, Nat.zero_le _, rfl, S7.out.1, by rw [sevs_0]; exact S7.out.2.1, S7.out.2.2.1, S7.out.2.2.2.1⟩
  case round =>
    have K7 : Hid (w.heap.size < b5 ∧ b5 < b7) := S7.out.2.2.2.2
    clear S7
    obtain ⟨i, hk, hi9, rfl, B, hI, M5, M7⟩ := hrel
    have HK : Hid (gk = L.length - i) := hk
    have SR : Hid (Below w.heap.size w wr ∧ IxR wr w.heap.size (sevs L i) ∧ Blm wr b5 F ∧ Blm wr b7 F) := ⟨B, hI, M5, M7⟩
    clear hk B hI M5 M7
    by_cases h8 : i = L.length
    · subst h8
      have hI := SR.out.2.1
      rw [sevs_all] at hI
      obtain ⟨T, hT⟩ : ∃ T, T = (List.range L.length).map fun k : Nat => 7 * (k : Int) := ⟨_, rfl⟩
      have lT : T.length = L.length := by rw [hT]; simp
      rw [← hT] at hI
      have HI : Hid (IxR wr w.heap.size (T ++ [-164]) ∧ T.length = L.length) := ⟨hI, lT⟩
      have lG : (mkF T zF).1.length = 256 := mkF_len _ _ zF_len
      obtain ⟨G, hG⟩ : ∃ G, G = (mkF T zF).1 := ⟨_, rfl⟩
      obtain ⟨y, hy⟩ : ∃ y, y = (mkF T zF).2 := ⟨_, rfl⟩
      have MK : Hid (∀ W, Ixs W w.heap.size 0 T → Calls Try.prog 6 #[.slice (some ⟨w.heap.size, 0, none⟩) L.length (L.length + 1)] W fun e w' => e = .returned (.tuple #[.agg (byts G).toArray, .int .i64 y]) ∧ Below W.heap.size W w') := fun W h => by
        rw [hG, hy, ← lT]; exact make_any (by rw [lT]; have := HH.out.2.2; omega) (.inr rfl) W h
      have RK : Hid (∀ W, Ixs W w.heap.size 0 T → Calls Try.prog 7 #[.slice (some ⟨w.heap.size, 0, none⟩) L.length (L.length + 1)] W fun e w' => e = .returned (.tuple #[.agg (byts G).toArray, .int .i64 y]) ∧ Below W.heap.size W w') := fun W h => by
        rw [hG, hy, ← lT]; exact rmake_any (by rw [lT]; have := HH.out.2.2; omega) (.inr rfl) W h
      rw [← hG] at lG
      have LG : Hid (G.length = 256) := lG
      have ig := size_bloom lG
      have ja := size_bloomA lG
      have og := one_byts G
      have szG : (byts G).toArray.size = 256 := by rw [List.size_toArray, byts_len, lG]
      have eqb := fun w => eq_bloom LG.out LG.out w
      rw [decide_eq_true rfl] at eqb
      have S8 : Hid (Below w.heap.size w wr ∧ Blm wr b5 F ∧ Blm wr b7 F) := ⟨SR.out.1, SR.out.2.2.1, SR.out.2.2.2⟩
      clear hI hT lT hG hy lG SR ic ia oc sz
      go_wp2_with fail
      refine (MK.out wr HI.out.1.front).mono ?_
      clear MK
      rintro e w8 ⟨rfl, hb⟩
      have sw : w.heap.size < wr.heap.size := Nat.lt_trans K7.out.1 S8.out.2.1.lt
      have S9 : Hid (Below w.heap.size w w8 ∧ IxR w8 w.heap.size (T ++ [-164]) ∧ Blm w8 b5 F ∧ Blm w8 b7 F) := ⟨S8.out.1.trans (hb.mono S8.out.1.size), HI.out.1.keep sw hb, S8.out.2.1.keep hb, S8.out.2.2.keep hb⟩
      have t5 : w8.there b5 0 (byts G).toArray.size := by rw [szG]; exact S9.out.2.2.1.there
      clear hb sw S8
      go_wp2_with (refine wpList_store_mid rfl 24 _ _ rfl b5 0 _ rfl rfl t5 ja og ?_; refine wpList_world (fun W => Below w.heap.size w W ∧ IxR W w.heap.size (T ++ [-164]) ∧ Blm W b5 G ∧ Blm W b7 F) ⟨below_setCells (Nat.le_of_lt K7.out.1) _ 0 _ S9.out.1, S9.out.2.1.farCells (Nat.ne_of_gt K7.out.1) _, S9.out.2.2.1.stored LG.out, S9.out.2.2.2.otherCells (Nat.ne_of_lt K7.out.2) _⟩ ?_; clear S9 t5; rintro W9 ⟨B9, I9, M9, N9⟩; have S9 : Hid (Below w.heap.size w W9 ∧ IxR W9 w.heap.size (T ++ [-164]) ∧ Blm W9 b5 G ∧ Blm W9 b7 F) := ⟨B9, I9, M9, N9⟩; clear B9 I9 M9 N9)
      refine (RK.out W9 S9.out.2.1.front).mono ?_
      clear RK
      rintro e wa ⟨rfl, hb⟩
      have SA : Hid (Below w.heap.size w wa ∧ Blm wa b5 G ∧ Blm wa b7 F) := ⟨S9.out.1.trans (hb.mono S9.out.1.size), S9.out.2.2.1.keep hb, S9.out.2.2.2.keep hb⟩
      have t7 : wa.there b7 0 (byts G).toArray.size := by rw [szG]; exact SA.out.2.2.there
      clear hb S9
      go_wp2_with (first | (refine wpList_store_mid rfl 24 _ _ rfl b7 0 _ rfl rfl t7 ja og ?_; refine wpList_world (fun W => Below w.heap.size w W ∧ Blm W b5 G ∧ Blm W b7 G) ⟨below_setCells (Nat.le_of_lt (Nat.lt_trans K7.out.1 K7.out.2)) _ 0 _ SA.out.1, SA.out.2.1.otherCells (Nat.ne_of_gt K7.out.2) _, SA.out.2.2.stored LG.out⟩ ?_; clear SA t7; rintro WB ⟨BB, MB, NB⟩; have SB : Hid (Below w.heap.size w WB) := BB; have r5 := MB.range; have r7 := NB.range; clear BB MB NB) | refine wpList_load_mid rfl 24 _ rfl b5 0 rfl (byts G) _ r5 Try.underlying24 rfl ig ?_ | refine wpList_load_mid rfl 24 _ rfl b7 0 rfl (byts G) _ r7 Try.underlying24 rfl ig ?_)
      refine (num_any WB).mono ?_
      rintro e w' ⟨rfl, rfl⟩
      go_wp2
      simp [bodyPost, results, Try.results3, go_sem]
      exact SB.out
    · have hlt : i < L.length := by omega
      have hlt' : (i : Int) < (L.length : Int) := by omega
      have g1 := SR.out.2.1.cell (i := i) (by rw [sevs_len hi9]; omega)
      have f1 := SR.out.2.1.2 i (by rw [sevs_len hi9]; omega)
      generalize (sevs L i).getD i 0 = y at *
      have NX : Hid (Below w.heap.size w (wr.setCell ⟨w.heap.size, i, none⟩ (.int .i64 (7 * (i : Int)))) ∧ IxR (wr.setCell ⟨w.heap.size, i, none⟩ (.int .i64 (7 * (i : Int)))) w.heap.size (sevs L (i + 1)) ∧ Blm (wr.setCell ⟨w.heap.size, i, none⟩ (.int .i64 (7 * (i : Int)))) b5 F ∧ Blm (wr.setCell ⟨w.heap.size, i, none⟩ (.int .i64 (7 * (i : Int)))) b7 F) :=
        ⟨SR.out.1.setCell (Nat.le_refl _) _, by rw [← sevs_set hlt]; exact SR.out.2.1.set i (by rw [sevs_len hi9]; omega) _, SR.out.2.2.1.other (Nat.ne_of_lt K7.out.1) _, SR.out.2.2.2.other (Nat.ne_of_lt (Nat.lt_trans K7.out.1 K7.out.2)) _⟩
      clear SR
      go_wp2
      go_roundg (L.length - (i + 1))
      case measure => have := HK.out; omega
      case rel => exact ⟨i + 1, rfl, by omega, by go_num, NX.out⟩
end Go.Proofs.Ytndefnomefdhoaa
