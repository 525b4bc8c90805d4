import Derived.Test.YtdehcohfcbopkaaBmH
import Derived.Test.YtdehcohfcbopkaaQTail
import Derived.Test.YtdehcohfcbopkaaCut
/- BloomSets: the law from the fourth answer on. -/
namespace Go.Proofs.Ytdehcohfcbopkaa
open Go.RowKit Go.Sort

theorem OwI.kept {B : Nat} {W W' : World} {v : Value} {L : List Int} {row : Option Nat} (h : OwI B W v L) (hg : W.grownBy W' row) (hn : ∀ k, v.ownBlock = some k → row ≠ some k) : OwI B W' v L :=
  World.ownsRow.kept h hg (by
    cases hd : v.ownBlock with
    | none => exact .inl rfl
    | some k => exact .inr fun e => hn k hd e.symm)
theorem OwI.lt {B : Nat} {W : World} {v : Value} {L : List Int} (h : OwI B W v L) (k : Nat) (hk : v.ownBlock = some k) : B ≤ k ∧ k < W.heap.size := World.ownsRow.lt h k hk
theorem OwI.alloc {B : Nat} {W : World} {v : Value} {L : List Int} (h : OwI B W v L) (o : Obj) : OwI B (W.alloc o) v L := h.keep ((Below.refl _ _).alloc (Nat.le_refl _) o)
theorem OwI.at {B n c : Nat} {a : Option Addr} {W : World} {L : List Int} (h : OwI B W (.slice a n c) L) : ∃ g, AtI a g 0 L ∧ Ixs W g 0 L := by
  obtain ⟨a', g', c', e, haz, hbz⟩ := h.lies
  injection e with e1 e2 e3
  subst e1
  exact ⟨g', haz, hbz⟩
theorem OwI.set {B g n cap : Nat} {W : World} {L : List Int} (h : OwI B W (.slice (some ⟨g, 0, none⟩) n cap) L) (hn : L.length = n) (i : Nat) (u : Int) : OwI B (W.setCell ⟨g, i, none⟩ (.int .i64 u)) (.slice (some ⟨g, 0, none⟩) n cap) (L.set i u) ∧ W.grownBy (W.setCell ⟨g, i, none⟩ (.int .i64 u)) (some g) := by
  subst hn
  have := World.ownsRow.stored h i (.int .i64 u)
  refine ⟨?_, this.2⟩
  rw [OwI, List.length_set, vals, List.map_set]
  exact this.1
/-- A whole array loaded under a guard. -/
theorem wpList_load_wantB {P : Program} {ops : Array Oper} {rest : List Oper} {a : Act} {w : World} {Q : Exit → Act → World → Prop} {n gi : Nat} {gb : Bool} {ty tt : TypeId} {x : Operand} {pos : String} {after : Array Edge} (b o : Nat) (cs : List Value) (d : TypeDesc) (hc : w.rangeAt b o cs)
    (hu : P.underlying ty = some d) (hd : d.isRow = true) (hi : (P.info? ty).map (·.size) = some cs.length) (hx : a.eval x = .pointer (some ⟨b, o, none⟩)) (hw : Region.wanted ⟨some n, .load ty x, tt, pos, after, some (gi, gb)⟩ (yielded ops a.tmps) = true)
    (h : wpList P ops Q rest (a.put (some n) (.agg cs.toArray)) w) : wpList P ops Q (⟨some n, .load ty x, tt, pos, after, some (gi, gb)⟩ :: rest) a w :=
  BigFrame.wpList_want hw fun _ hK => wp_load_mid ty x rfl b o hx cs d hc hu hd hi (hK _ _ h)
/-- The mark built under a guard. -/
theorem wpList_build_wantB {MB : List Value} (hM : Hid (MB = byts markF)) {ops : Array Oper} {rest : List Oper} {a : Act} {w : World} {Q : Exit → Act → World → Prop} {n gi : Nat} {gb : Bool} {tt : TypeId} {pos : String} {after : Array Edge} (hw : Region.wanted ⟨some n, .build 24 #[(0, .const (.int .u8 164))], tt, pos, after, some (gi, gb)⟩ (yielded ops a.tmps) = true)
    (h : wpList Try.prog ops Q rest (a.put (some n) (.agg MB.toArray)) w) : wpList Try.prog ops Q (⟨some n, .build 24 #[(0, .const (.int .u8 164))], tt, pos, after, some (gi, gb)⟩ :: rest) a w := by
  obtain rfl := hM.out
  exact BigFrame.wpList_want hw fun _ hK => wp_build_mark rfl (hK _ _ h)
theorem OwI.cell {B g n cap : Nat} {W : World} {L : List Int} (h : OwI B W (.slice (some ⟨g, 0, none⟩) n cap) L) (hn : L.length = n) {i : Nat} (hi : i < n) : W.cell? ⟨g, i, none⟩ = some (.int .i64 (L.getD i 0)) := by
  subst hn
  rw [World.ownsRow.cellAt h i (by omega), vals, List.getElem?_map, List.getElem?_eq_getElem hi, List.getD, List.getElem?_eq_getElem hi]
  rfl
theorem OwI.free {B g n cap : Nat} {W : World} {L : List Int} (h : OwI B W (.slice (some ⟨g, 0, none⟩) n cap) L) (hn : L.length = n) (i : Nat) : W.frozen? ⟨g, i, none⟩ = false := by
  subst hn
  exact World.ownsRow.frozenAt h i
theorem OwI.some {B n cap : Nat} {a : Option Addr} {W : World} {L : List Int} (h : OwI B W (.slice a n cap) L) (hn : L.length = n) (h0 : 0 < n) : ∃ g, a = Option.some ⟨g, 0, none⟩ := by
  rcases h.2 with ⟨e, h0'⟩ | ⟨g, cap', cur, e, _⟩
  · omega
  · injection e with e1 _ _
    exact ⟨g, e1⟩
theorem Blm.kept {W W' : World} {b : Nat} {M : List (BitVec 8)} {row : Option Nat} (h : Blm W b M) (hg : W.grownBy W' row) (hb : b < W.heap.size) (hn : row ≠ some b) : Blm W' b M := h.block (hg.block b hb (fun e => hn e.symm))
set_option maxRecDepth 100000 in
set_option maxHeartbeats 16000000 in
theorem sets_tail {a : Option Addr} {bA bB g cp n b1 b2 b3 : Nat} {FS : List (List (BitVec 8))} {A B : List (BitVec 8)} {v1 v2 v3 : Value} {L : List Int} (hA : A.length = 256) (hn : FS.length = n) (hn2 : n < 1099511627775) (hL : natI (bitsF A) = L) (hLl : L.length ≤ 2048) (w W : World)
    (hb : Below w.heap.size w W) (hbA : bA < W.heap.size) (mA : Blm W bA A) (hl : Lst W g FS) (o1 : OwI b1 W v1 L) (o2 : OwI b2 W v2 L) (o3 : OwI b3 W v3 L) (q0 : w.heap.size ≤ b1) (q1 : bA < b1) (q2 : ∀ k, v1.ownBlock = some k → k < b2) (q3 : b2 ≤ b3) (q4 : b1 ≤ W.heap.size)
    (t6 t15 t16 t17 t18 t19 t20 t21 t22 t23 t24 t25 t26 t27 t28 t29 t30 t31 t32 t33 t34 t35 t36 t37 t38 t39 t40 t41 t42 t43 t44 t45 t46 t47 t48 t49 t50 t51 t52 t53 t54 t55 t56 t57 t58 t59 t60 t61 t62 t63 t64 t65 t66 t67 t68 t69 t70 t71 t72 t73 t74 : Value) :
    WpFrom Try.prog Try.f3 11 (bodyPost Try.prog Try.f3 fun e w' => e = .returned (.bool true) ∧ Below w.heap.size w w') { tmps := #[.slice a n cp, .agg (byts A).toArray, .agg (byts B).toArray, undef, .pointer (some ⟨bA, 0, none⟩), .pointer (some ⟨bB, 0, none⟩), t6, .slice (some ⟨g, 0, none⟩) (n + 1) (n + 1), .slice (some ⟨g, 0, none⟩) n (n + 1), .int .i64 (n : Int), v1, v2, v3, undef, undef, t15, t16, t17, t18, t19, t20, t21, t22, t23, t24, t25, t26, t27, t28, t29, t30, t31, t32, t33, t34, t35, t36, t37, t38, t39, t40, t41, t42, t43, t44, t45, t46, t47, t48, t49, t50, t51, t52, t53, t54, t55, t56, t57, t58, t59, t60, t61, t62, t63, t64, t65, t66, t67, t68, t69, t70, t71, t72, t73, t74, undef, undef, undef, undef, undef, undef, undef, undef, undef, undef, undef, undef, undef, undef, undef, undef, undef, undef, undef, undef, undef, undef, undef, undef, undef, undef, undef, undef, undef, undef, undef, undef, undef, undef, undef, undef, undef, undef, undef, undef, undef, undef, undef, undef], defers := [] } W := by
  refine WpFrom.intro rfl ?_
  have HH : Hid (A.length = 256 ∧ FS.length = n ∧ natI (bitsF A) = L ∧ L.length ≤ 2048 ∧ w.heap.size ≤ b1 ∧ bA < b1 ∧ (∀ k, v1.ownBlock = some k → k < b2) ∧ b2 ≤ b3) := ⟨hA, hn, hL, hLl, q0, q1, q2, q3⟩
  have S0 : Hid (Below w.heap.size w W ∧ bA < W.heap.size ∧ Blm W bA A ∧ Lst W g FS ∧ OwI b1 W v1 L ∧ OwI b2 W v2 L ∧ OwI b3 W v3 L ∧ b1 ≤ W.heap.size) := ⟨hb, hbA, mA, hl, o1, o2, o3, q4⟩
  have icA := size_bloom hA
  clear hb hbA mA hl q0 q1 q2 q3 q4 hA hL hLl
  obtain ⟨a1, g1, c1, rfl, _, _⟩ := o1.lies
  obtain ⟨a2, g2, c2, rfl, _, _⟩ := o2.lies
  obtain ⟨a3, g3, c3, rfl, _, _⟩ := o3.lies
  clear o1 o2 o3
  refine wp_seq_k fun K0 h0 => ?_
  have H0 : Hid _ := h0
  clear h0
  obtain ⟨gx, zx, yx⟩ := S0.out.2.2.2.2.1.at
  obtain ⟨gy, zy, yy⟩ := S0.out.2.2.2.2.2.1.at
  obtain ⟨gz, zz, yz⟩ := S0.out.2.2.2.2.2.2.1.at
  have c1' := equal_yes (c := c1) (c' := c3) (by have := HH.out.2.2.2.1; omega) zx zz W yx yz
  go_wp2_with fail
  with_reducible refine c1'.mono ?_
  rintro e W1 ⟨rfl, B1⟩
  have S1 : Hid (Below w.heap.size w W1 ∧ bA < W1.heap.size ∧ Blm W1 bA A ∧ Lst W1 g FS ∧ OwI b1 W1 (.slice a1 L.length c1) L ∧ OwI b2 W1 (.slice a2 L.length c2) L ∧ OwI b3 W1 (.slice a3 L.length c3) L ∧ b1 ≤ W1.heap.size) := ⟨S0.out.1.trans (B1.mono S0.out.1.size), Nat.lt_of_lt_of_le S0.out.2.1 B1.size, S0.out.2.2.1.keep B1, S0.out.2.2.2.1.keep B1, S0.out.2.2.2.2.1.keep B1, S0.out.2.2.2.2.2.1.keep B1, S0.out.2.2.2.2.2.2.1.keep B1, Nat.le_trans S0.out.2.2.2.2.2.2.2 B1.size⟩
  have c2' := equal_yes (c := c2) (c' := c3) (by have := HH.out.2.2.2.1; omega) zy zz W1 (yy.keep B1) (yz.keep B1)
  clear c1' S0 B1 zx zy zz yx yy yz
  go_wp2_with fail
  with_reducible refine c2'.mono ?_
  rintro e W2 ⟨rfl, B1⟩
  have S2 : Hid (Below w.heap.size w W2 ∧ bA < W2.heap.size ∧ Blm W2 bA A ∧ Lst W2 g FS ∧ OwI b1 W2 (.slice a1 L.length c1) L ∧ OwI b2 W2 (.slice a2 L.length c2) L ∧ OwI b3 W2 (.slice a3 L.length c3) L ∧ b1 ≤ W2.heap.size) := ⟨S1.out.1.trans (B1.mono S1.out.1.size), Nat.lt_of_lt_of_le S1.out.2.1 B1.size, S1.out.2.2.1.keep B1, S1.out.2.2.2.1.keep B1, S1.out.2.2.2.2.1.keep B1, S1.out.2.2.2.2.2.1.keep B1, S1.out.2.2.2.2.2.2.1.keep B1, Nat.le_trans S1.out.2.2.2.2.2.2.2 B1.size⟩
  clear c2' S1 B1
  have oc := one_byts markF
  have ia := size_bloomA markF_len
  have rM := S2.out.2.2.2.1.2.1
  rw [hn] at rM
  have eqb := fun w => eq_bloom markF_len markF_len w
  rw [decide_eq_true rfl] at eqb
  have icM := size_bloom markF_len
  obtain ⟨MB, hMB⟩ : ∃ MB, MB = byts markF := ⟨_, rfl⟩
  rw [← hMB] at oc ia rM eqb icM
  have HM : Hid (MB = byts markF) := hMB
  clear hMB
  go_wp2_with (first
    | ((with_reducible refine wpList_load_wantB (ty := 24) g (n * 256) MB _ rM Try.underlying24 ?_ icM ?_ ?_ ?_); rfl; rfl; rfl; simp only [Act.put, List.setIfInBounds_toArray, List.set_cons_succ, List.set_cons_zero])
    | ((with_reducible refine wpList_build_wantB HM ?_ ?_); rfl; simp only [Act.put, List.setIfInBounds_toArray, List.set_cons_succ, List.set_cons_zero]))
  refine H0.out _ _ ?_
  clear H0 K0 eqb icM rM ia oc
  refine wp_seq_k fun K1 h1 => ?_
  have H1 : Hid _ := h1
  clear h1
  go_wp2_with fail
  have LE : Hid (L.length ≤ 2048) := HH.out.2.2.2.1
  have l8 : (L.length : Int) ≤ 2048 := by have := LE.out; omega
  generalize hm : L.length = m at *
  have HM2 : Hid (L.length = m) := hm
  clear hm HM hn hn2
  go_loopg [13] m (fun k iv wr => ∃ i : Nat, k = m - i ∧ i ≤ m ∧ iv = .int .i64 i ∧ (∃ L1 : List Int, L1.length = m ∧ OwI b1 wr (.slice a1 m c1) L1) ∧ Below w.heap.size w wr ∧ bA < wr.heap.size ∧ Blm wr bA A ∧ OwI b2 wr (.slice a2 m c2) L ∧ OwI b3 wr (.slice a3 m c3) L ∧ b1 ≤ wr.heap.size)
  case atStart => exact ⟨0, rfl, Nat.zero_le _, rfl, ⟨L, HM2.out, S2.out.2.2.2.2.1⟩, S2.out.1, S2.out.2.1, S2.out.2.2.1, S2.out.2.2.2.2.2.1, S2.out.2.2.2.2.2.2.1, S2.out.2.2.2.2.2.2.2⟩
  case round =>
    clear S2
    obtain ⟨i, hk, hi, rfl, ⟨L1, hL1, O1⟩, Q0, Q1, Q2, Q3, Q4, Q5⟩ := hrel
    have HK : Hid (gk = m - i) := hk
    have SR : Hid (OwI b1 wr (.slice a1 m c1) L1 ∧ Below w.heap.size w wr ∧ bA < wr.heap.size ∧ Blm wr bA A ∧ OwI b2 wr (.slice a2 m c2) L ∧ OwI b3 wr (.slice a3 m c3) L ∧ b1 ≤ wr.heap.size ∧ L1.length = m) := ⟨O1, Q0, Q1, Q2, Q3, Q4, Q5, hL1⟩
    clear hk O1 Q0 Q1 Q2 Q3 Q4 Q5 hL1
    by_cases h8 : i = m
    · subst h8
      clear HK
      go_wp2
      refine H1.out _ _ ?_
      clear H1
      refine wp_seq_k fun K2 h2 => ?_
      have H2 : Hid _ := h2
      clear h2
      go_wp2_with fail
      have DD : Hid (∀ k, (Value.slice a1 i c1).ownBlock = some k → (Value.slice a2 i c2).ownBlock ≠ some k ∧ (Value.slice a3 i c3).ownBlock ≠ some k) := fun k hk => by
        have q2 := HH.out.2.2.2.2.2.2.1 k (by simpa [Value.ownBlock] using hk)
        refine ⟨fun e => ?_, fun e => ?_⟩
        · have := SR.out.2.2.2.2.1.lt k e; omega
        · have := SR.out.2.2.2.2.2.1.lt k e; have := HH.out.2.2.2.2.2.2.2; omega
      obtain ⟨i0, hi0, hz0, hz1, hz2⟩ := info_parts info_int
      go_loopg [10, 14] 64 (fun k lv iv wr => ∃ j : Nat, k = 64 - j ∧ j ≤ 64 ∧ iv = .int .i64 j ∧ (∃ L1 : List Int, L1.length = i + j ∧ OwI b1 wr lv L1) ∧ (∀ k, lv.ownBlock = some k → (Value.slice a2 i c2).ownBlock ≠ some k ∧ (Value.slice a3 i c3).ownBlock ≠ some k) ∧ Below w.heap.size w wr ∧ bA < wr.heap.size ∧ Blm wr bA A ∧ OwI b2 wr (.slice a2 i c2) L ∧ OwI b3 wr (.slice a3 i c3) L ∧ b1 ≤ wr.heap.size)
      case atStart => exact ⟨0, rfl, Nat.zero_le _, rfl, ⟨L1, SR.out.2.2.2.2.2.2.2, SR.out.1⟩, DD.out, SR.out.2.1, SR.out.2.2.1, SR.out.2.2.2.1, SR.out.2.2.2.2.1, SR.out.2.2.2.2.2.1, SR.out.2.2.2.2.2.2.1⟩
      case round =>
        clear SR DD
        obtain ⟨j, hk, hj, rfl, ⟨L2, hL2, O1⟩, QD, Q0, Q1, Q2, Q3, Q4, Q5⟩ := hrel
        have HK : Hid (gk = 64 - j) := hk
        have SR : Hid (OwI b1 wr u10 L2 ∧ Below w.heap.size w wr ∧ bA < wr.heap.size ∧ Blm wr bA A ∧ OwI b2 wr (.slice a2 i c2) L ∧ OwI b3 wr (.slice a3 i c3) L ∧ b1 ≤ wr.heap.size ∧ L2.length = i + j ∧ (∀ k, u10.ownBlock = some k → (Value.slice a2 i c2).ownBlock ≠ some k ∧ (Value.slice a3 i c3).ownBlock ≠ some k)) := ⟨O1, Q0, Q1, Q2, Q3, Q4, Q5, hL2, QD⟩
        clear hk O1 Q0 Q1 Q2 Q3 Q4 Q5 hL2 QD
        by_cases h9 : j = 64
        · subst h9
          clear HK
          go_wp2
          refine H2.out _ _ ?_
          clear H2
          obtain ⟨gy, zy, yy⟩ := SR.out.2.2.2.2.1.at
          obtain ⟨gz, zz, yz⟩ := SR.out.2.2.2.2.2.1.at
          have ll : L.length < 70368744177664 := by rw [HM2.out]; have := LE.out; omega
          have c2' := equal_yes (c := c2) (c' := c3) ll zy zz wr yy yz
          rw [HM2.out] at c2'
          go_wp2_with fail
          with_reducible refine c2'.mono ?_
          rintro e W5 ⟨rfl, B5⟩
          have S5 : Hid (Below w.heap.size w W5 ∧ Blm W5 bA A ∧ OwI b3 W5 (.slice a3 i c3) L) := ⟨SR.out.2.1.trans (B5.mono SR.out.2.1.size), SR.out.2.2.2.1.keep B5, SR.out.2.2.2.2.2.1.keep B5⟩
          clear c2' SR B5 zy yy yz zz
          have rA := S5.out.2.1.range
          go_wp2_with (first
            | ((with_reducible refine wpList_load_wantB (ty := 24) bA 0 (byts A) _ rA Try.underlying24 ?_ icA ?_ ?_ ?_); rfl; rfl; rfl; simp only [Act.put, List.setIfInBounds_toArray, List.set_cons_succ, List.set_cons_zero]))
          have hb := bits_any HH.out.1 W5
          rw [HH.out.2.2.1] at hb
          with_reducible refine hb.mono ?_
          rintro e W6 ⟨v6, rfl, O6, B6⟩
          have S6 : Hid (Below w.heap.size w W6 ∧ OwI b3 W6 (.slice a3 i c3) L) := ⟨S5.out.1.trans (B6.mono S5.out.1.size), S5.out.2.2.keep B6⟩
          clear S5 B6 hb rA
          obtain ⟨a6, g6, c6, rfl, zx, yx⟩ := O6.lies
          obtain ⟨gz, zz, yz⟩ := S6.out.2.at
          have c3' := equal_yes (c := c6) (c' := c3) ll zx zz W6 yx yz
          rw [HM2.out] at c3' ⊢
          go_wp2_with fail
          with_reducible refine c3'.mono ?_
          rintro e W7 ⟨rfl, B7⟩
          have S7 : Hid (Below w.heap.size w W7) := S6.out.1.trans (B7.mono S6.out.1.size)
          clear c3' B7 S6
          go_wp2
          simp [bodyPost, results, Try.results3, go_sem]
          exact S7.out
        · have hlt : j < 64 := by omega
          have hlt' : (j : Int) < 64 := by omega
          have IM : Hid (i ≤ 2048) := LE
          go_wp2_with ((at_builtin; go_loud (refine wpList_append_own_at _ rfl _ _ 29 rfl b1 3 i0 (.int .i64 0) 1 8 Try.underlying29 hi0 hz0 hz1 hz2 rfl (by decide) u10 _ _ rfl (SR.out.1.row.alloc _) ⟨wr.heap.size, 0, none⟩ 1 1 [.int .i64 (-8)] rfl rfl (cell_one_int _ _ _) (fun u hu => by simp at hu; subst hu; rfl) (by unfold maxLen; have := SR.out.2.2.2.2.2.2.2.1; have := IM.out; omega) (by have := SR.out.2.2.2.2.2.2.2.1; have := IM.out; omega) (by have := SR.out.2.2.2.2.2.2.1; simp; omega) ?_); intro v' w4 hown' hgrow4 hnil4 hblk4))
          have N4 : Hid ((∃ L3 : List Int, L3.length = i + (j + 1) ∧ OwI b1 w4 v' L3) ∧ (∀ k, v'.ownBlock = some k → (Value.slice a2 i c2).ownBlock ≠ some k ∧ (Value.slice a3 i c3).ownBlock ≠ some k) ∧ Below w.heap.size w w4 ∧ bA < w4.heap.size ∧ Blm w4 bA A ∧ OwI b2 w4 (.slice a2 i c2) L ∧ OwI b3 w4 (.slice a3 i c3) L ∧ b1 ≤ w4.heap.size) := by
            have sz := hgrow4.size
            have sz2 : wr.heap.size ≤ w4.heap.size := Nat.le_trans (by simp) sz
            refine ⟨⟨L2 ++ [-8], by rw [List.length_append, SR.out.2.2.2.2.2.2.2.1]; rfl, ?_⟩, fun k hk => ?_, (SR.out.2.1.alloc SR.out.2.1.size _).grown hgrow4 (by have := SR.out.2.1.size; simp; omega) (fun k hk => ?_), Nat.lt_of_lt_of_le SR.out.2.2.1 sz2, ?_, ?_, ?_, Nat.le_trans SR.out.2.2.2.2.2.2.1 sz2⟩
            · rw [OwI, List.length_append, vals, List.map_append]
              exact hown'
            · rcases hblk4 with e | e
              · exact SR.out.2.2.2.2.2.2.2.2 k (e ▸ hk)
              · rw [e] at hk
                have hk' := Option.some.inj hk
                simp at hk'
                refine ⟨fun e2 => ?_, fun e2 => ?_⟩
                · have := (SR.out.2.2.2.2.1.lt k e2).2; omega
                · have := (SR.out.2.2.2.2.2.1.lt k e2).2; omega
            · have := (SR.out.1.lt k hk).1; have := HH.out.2.2.2.2.1; omega
            · refine (SR.out.2.2.2.1.alloc _).kept hgrow4 (by have := SR.out.2.2.1; simp; omega) (fun e => ?_)
              have := (SR.out.1.lt _ e).1; have := HH.out.2.2.2.2.2.1; omega
            · exact (SR.out.2.2.2.2.1.alloc _).kept hgrow4 (fun k hk e => (SR.out.2.2.2.2.2.2.2.2 k e).1 hk)
            · exact (SR.out.2.2.2.2.2.1.alloc _).kept hgrow4 (fun k hk e => (SR.out.2.2.2.2.2.2.2.2 k e).2 hk)
          clear hown' hgrow4 hnil4 hblk4 SR
          go_roundg (64 - (j + 1))
          case measure => have := HK.out; omega
          case rel => exact ⟨j + 1, rfl, by omega, by go_num, N4.out⟩
    · have hlt : i < m := by omega
      have hlt' : (i : Int) < (m : Int) := by omega
      obtain ⟨gg, rfl⟩ := SR.out.1.some SR.out.2.2.2.2.2.2.2 (by omega)
      have ob := SR.out.1.lt gg rfl
      have f1 := SR.out.1.free SR.out.2.2.2.2.2.2.2 i
      have cc1 := SR.out.1.cell SR.out.2.2.2.2.2.2.2 hlt
      have NX : Hid (∃ L2 : List Int, L2.length = m ∧ OwI b1 (wr.setCell ⟨gg, i, none⟩ (.int .i64 (-7))) (.slice (some ⟨gg, 0, none⟩) m c1) L2) := ⟨L1.set i (-7), by rw [List.length_set]; exact SR.out.2.2.2.2.2.2.2, (SR.out.1.set SR.out.2.2.2.2.2.2.2 i (-7)).1⟩
      have G := (SR.out.1.set SR.out.2.2.2.2.2.2.2 i (-7)).2
      have q2 := HH.out.2.2.2.2.2.2.1 gg rfl
      have NY : Hid (Below w.heap.size w (wr.setCell ⟨gg, i, none⟩ (.int .i64 (-7))) ∧ bA < (wr.setCell ⟨gg, i, none⟩ (.int .i64 (-7))).heap.size ∧ Blm (wr.setCell ⟨gg, i, none⟩ (.int .i64 (-7))) bA A ∧ OwI b2 (wr.setCell ⟨gg, i, none⟩ (.int .i64 (-7))) (.slice a2 m c2) L ∧ OwI b3 (wr.setCell ⟨gg, i, none⟩ (.int .i64 (-7))) (.slice a3 m c3) L ∧ b1 ≤ (wr.setCell ⟨gg, i, none⟩ (.int .i64 (-7))).heap.size) := by
        refine ⟨SR.out.2.1.grown G SR.out.2.1.size (fun k hk => ?_), Nat.lt_of_lt_of_le SR.out.2.2.1 G.size, SR.out.2.2.2.1.kept G SR.out.2.2.1 (fun e => ?_), SR.out.2.2.2.2.1.kept G (fun k hk e => ?_), SR.out.2.2.2.2.2.1.kept G (fun k hk e => ?_), Nat.le_trans SR.out.2.2.2.2.2.2.1 G.size⟩
        · have := Option.some.inj hk; have := HH.out.2.2.2.2.1; omega
        · have := Option.some.inj e; have := HH.out.2.2.2.2.2.1; omega
        · have := Option.some.inj e; have := SR.out.2.2.2.2.1.lt k hk; omega
        · have := Option.some.inj e; have := SR.out.2.2.2.2.2.1.lt k hk; have := HH.out.2.2.2.2.2.2.2; omega
      generalize L1.getD i 0 = xx at cc1
      clear SR h8 G ob q2
      go_wp2
      go_roundg (m - (i + 1))
      case measure => have := HK.out; omega
      case rel => exact ⟨i + 1, rfl, by omega, by go_num, NX.out, NY.out⟩
end Go.Proofs.Ytdehcohfcbopkaa
