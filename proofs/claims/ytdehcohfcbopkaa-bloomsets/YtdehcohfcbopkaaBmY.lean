import Derived.Test.YtdehcohfcbopkaaBmX
import Derived.Laws.OwnMore
/- Bits. -/
namespace Go.Proofs.Ytdehcohfcbopkaa
open Go.RowKit Go.Sort

/-- A list of ints of one's own. -/
def OwI (B : Nat) (W : World) (v : Value) (L : List Int) : Prop := W.ownsRow B 3 1 v L.length (vals L)
theorem OwI.row {B : Nat} {W : World} {v : Value} {L : List Int} (h : OwI B W v L) : W.ownsRow B 3 1 v L.length (vals L) := h
theorem OwI.lies {B : Nat} {W : World} {v : Value} {L : List Int} (h : OwI B W v L) : ∃ a g c, v = .slice a L.length c ∧ AtI a g 0 L ∧ Ixs W g 0 L := by
  rcases h.2 with ⟨e, hx⟩ | ⟨g, cap, cur, e, _, _, hle, _⟩
  · have hx' : L = [] := List.length_eq_zero_iff.1 hx
    subst hx'
    exact ⟨none, 0, 0, e, .inl rfl, fun i hi => absurd hi (Nat.not_lt_zero _)⟩
  · subst e
    refine ⟨_, g, cap, rfl, .inr rfl, fun i hi => ?_⟩
    rw [Nat.zero_add, h.row.cellAt i (by omega)]
    simp [vals, List.getD, hi]
theorem OwI.keep {B : Nat} {W W' : World} {v : Value} {L : List Int} (h : OwI B W v L) (hb : Below W.heap.size W W') : OwI B W' v L :=
  own_same h fun k hk => hb.block k (h.row.lt k hk).2
theorem own_empty {W : World} {B g m : Nat} (hB : B ≤ g) (hm : m ≤ 2048) (h : W.heap[g]? = some (.cells (List.replicate m (Value.int .i64 0)).toArray 3 (0, 0))) : OwI B W (.slice (some ⟨g, 0, none⟩) 0 m) [] :=
  ⟨rfl, .inr ⟨g, m, (List.replicate m (Value.int .i64 0)).toArray, rfl, hB, h, Nat.zero_le _, by unfold maxLen; omega, by simp, by simp [vals]⟩⟩
theorem cell_one_int (W : World) (x : Int) (t : TypeId) : ∀ j u, [Value.int .i64 x][j]? = some u → (W.alloc (.cells #[.int .i64 x] t)).cell? ((⟨W.heap.size, 0, none⟩ : Addr).add j) = some u := by
  intro j u hu
  have hj : j = 0 := by
    rcases j with _ | j
    · rfl
    · simp at hu
  subst hj
  rw [Addr.add_mid, Nat.zero_add, World.cell?_alloc_mark]
  simpa using hu
/-- The bits below i that are set. -/
def bitsT (F : List (BitVec 8)) (i : Nat) : List Nat := (List.range i).filter (tF F)
theorem bitsT_next (F : List (BitVec 8)) (i : Nat) : bitsT F (i + 1) = bitsT F i ++ (if tF F i = true then [i] else []) := by
  rw [bitsT, bitsT, List.range_succ, List.filter_append]
  cases h : tF F i <;> simp [h]
theorem bitsT_len (F : List (BitVec 8)) (i : Nat) : (bitsT F i).length ≤ i := by
  have := List.length_filter_le (tF F) (List.range i)
  simpa [bitsT] using this
def natI (l : List Nat) : List Int := l.map fun n : Nat => (n : Int)
theorem natI_len (l : List Nat) : (natI l).length = l.length := by simp [natI]
theorem cntF_le (F : List (BitVec 8)) : cntF F ≤ 2048 := bitsT_len F 2048

set_option maxRecDepth 100000 in
set_option maxHeartbeats 8000000 in
theorem bits_any {F : List (BitVec 8)} (hF : F.length = 256) (w : World) :
    Calls Try.prog 10 #[.agg (byts F).toArray] w fun e w' => ∃ v, e = .returned v ∧ OwI w.heap.size w' v (natI (bitsF F)) ∧ Below w.heap.size w w' := by
  have HF : Hid (F.length = 256) := hF
  have rb : ∀ t, (w.alloc (.cells (byts F).toArray t)).rangeAt w.heap.size 0 (byts F) := fun t => (Blm.new hF t rfl).range
  have ic := size_bloom hF
  obtain ⟨i0, hi, hz0, hz1, hz2⟩ := info_parts info_int
  clear hF
  go_enter Try.func10, Try.ntmps10
  go_wp2_with (refine wpList_load_mid rfl 24 _ rfl w.heap.size 0 rfl (byts F) _ (rb _) Try.underlying24 rfl ic ?_)
  clear rb ic
  refine calls_world (fun W => Below w.heap.size w W ∧ Blm W w.heap.size F) ⟨(Below.refl _ _).alloc (Nat.le_refl _) _, Blm.new HF.out _ rfl⟩ ?_
  rintro W ⟨B0, M0⟩
  refine (count_any HF.out W).mono ?_
  rintro e w1 ⟨rfl, hb⟩
  have S1 : Hid (Below w.heap.size w w1 ∧ Blm w1 w.heap.size F) := ⟨B0.trans (hb.mono B0.size), M0.keep hb⟩
  clear B0 M0 hb
  have cl := cntF_le F
  have cl' : ((cntF F : Nat) : Int) ≤ 2048 := by omega
  have CL : Hid (cntF F ≤ 2048) := cl
  generalize cntF F = m at *
  clear cl
  go_wp2_with (at_make; refine wpList_make_8 _ rfl _ _ 29 rfl 3 i0 (.int .i64 0) Try.underlying29 hi hz0 hz1 rfl hz2 .i64 .i64 _ _ 0 m rfl rfl rfl (by omega) (Nat.zero_le _) (by have := CL.out; omega) ?_; rw [made_ints]; refine wpList_world (fun W => Below w.heap.size w W ∧ Blm W w.heap.size F ∧ OwI w1.heap.size W (.slice (some ⟨w1.heap.size, 0, none⟩) 0 m) []) ⟨S1.out.1.alloc S1.out.1.size _, S1.out.2.alloc _, own_empty (Nat.le_refl _) CL.out (heap_new _ _)⟩ ?_; rintro W2 ⟨B2, M2, O2⟩; have S2 : Hid (Below w.heap.size w W2 ∧ Blm W2 w.heap.size F ∧ OwI w1.heap.size W2 (.slice (some ⟨w1.heap.size, 0, none⟩) 0 m) [] ∧ w.heap.size < w1.heap.size) := ⟨B2, M2, O2, S1.out.2.lt⟩; clear B2 M2 O2 S1)
  go_loopg [3, 8] 2048 (fun k lv iv wr => ∃ i : Nat, k = 2048 - i ∧ i ≤ 2048 ∧ iv = .int .i64 i ∧ Below w.heap.size w wr ∧ Blm wr w.heap.size F ∧ OwI w1.heap.size wr lv (natI (bitsT F i)) ∧ w1.heap.size ≤ wr.heap.size)
  case atStart => exact ⟨0, rfl, by decide, rfl, S2.out.1, S2.out.2.1, S2.out.2.2.1, Nat.le_of_lt (S2.out.2.2.1.row.lt _ rfl).2⟩
  case round =>
    have C2 : Hid (w.heap.size < w1.heap.size) := S2.out.2.2.2
    clear S2
    obtain ⟨i, hk, hi9, rfl, B, hM, hO, hz⟩ := hrel
    have HK : Hid (gk = 2048 - i) := hk
    have SR : Hid (Below w.heap.size w wr ∧ Blm wr w.heap.size F ∧ OwI w1.heap.size wr u3 (natI (bitsT F i)) ∧ w1.heap.size ≤ wr.heap.size) := ⟨B, hM, hO, hz⟩
    clear hk B hM hO hz
    by_cases h8 : i = 2048
    · subst h8
      go_wp2
      go_ret
      refine ⟨_, rfl, ?_, SR.out.1⟩
      have h := SR.out.2.2.1
      exact ⟨h.1, by
        rcases h.2 with e | ⟨g, cap, cur, e1, e2, e3⟩
        · exact .inl e
        · exact .inr ⟨g, cap, cur, e1, Nat.le_trans (Nat.le_of_lt C2.out) e2, e3⟩⟩
    · have hlt : (i : Int) < 2048 := by omega
      have st := isSet_any (x := (i : Int)) (by omega) hlt wr SR.out.2.1
      rw [Int.toNat_natCast] at st
      have bn := bitsT_next F i
      have bl := bitsT_len F i
      have HL : Hid (i < 2048) := show i < 2048 by omega
      clear h8
      by_cases ht : tF F i = true
      · rw [ht] at st
        rw [if_pos ht] at bn
        have BN : Hid (natI (bitsT F (i + 1)) = natI (bitsT F i) ++ [(i : Int)] ∧ (natI (bitsT F i)).length ≤ i) := ⟨by rw [bn, natI, List.map_append]; rfl, by rw [natI_len]; exact bl⟩
        clear ht bn bl
        go_wp2_with fail
        refine st.mono ?_
        clear st
        rintro e w3 ⟨rfl, hb⟩
        have S3 : Hid (Below w.heap.size w w3 ∧ Blm w3 w.heap.size F ∧ OwI w1.heap.size w3 u3 (natI (bitsT F i)) ∧ w1.heap.size ≤ w3.heap.size) := ⟨SR.out.1.trans (hb.mono SR.out.1.size), SR.out.2.1.keep hb, SR.out.2.2.1.keep hb, Nat.le_trans SR.out.2.2.2 hb.size⟩
        clear hb SR
        go_wp2_with ((at_builtin; go_loud (refine wpList_append_own_at _ rfl _ _ 29 rfl w1.heap.size 3 i0 (.int .i64 0) 1 8 Try.underlying29 hi hz0 hz1 hz2 rfl (by decide) u3 _ _ rfl (S3.out.2.2.1.row.alloc _) ⟨w3.heap.size, 0, none⟩ 1 1 [.int .i64 (i : Int)] rfl rfl (cell_one_int _ _ _) (fun u hu => by simp at hu; subst hu; rfl) (by unfold maxLen; have := BN.out.2; have := HL.out; omega) (by have := BN.out.2; have := HL.out; omega) (by have := S3.out.2.2.2; simp; omega) ?_); intro v' w4 hown' hgrow4 hnil4 hblk4))
        have N4 : Hid (Below w.heap.size w w4 ∧ Blm w4 w.heap.size F ∧ OwI w1.heap.size w4 v' (natI (bitsT F (i + 1))) ∧ w1.heap.size ≤ w4.heap.size) := by
          have g1 : ∀ k, u3.ownBlock = some k → w1.heap.size ≤ k := fun k hk => (S3.out.2.2.1.row.lt k hk).1
          refine ⟨(S3.out.1.alloc S3.out.1.size _).grown hgrow4 (by have := S3.out.1.size; simp; omega) (fun k hk => Nat.le_trans (Nat.le_of_lt C2.out) (g1 k hk)), ?_, ?_, Nat.le_trans S3.out.2.2.2 (Nat.le_trans (by simp) hgrow4.size)⟩
          · have hA := S3.out.2.1.alloc (.cells #[.int .i64 (i : Int)] 3)
            have eb := hgrow4.block w.heap.size (by have := S3.out.2.1.lt; simp; omega) (fun h => by have := g1 _ h.symm; have := C2.out; omega)
            exact ⟨hA.1, fun j hj => by rw [World.cell?_of_block (w := w3.alloc (.cells #[.int .i64 (i : Int)] 3)) (a := ⟨w.heap.size, j, none⟩) eb]; exact hA.2.1 j hj, fun j hj => by rw [World.frozen?_of_block eb]; exact hA.2.2 j hj⟩
          · rw [BN.out.1, OwI, List.length_append, vals, List.map_append]
            exact hown'
        clear hown' hgrow4 hnil4 hblk4 S3
        go_roundg (2048 - (i + 1))
        case measure => have := HK.out; omega
        case rel => exact ⟨i + 1, rfl, by omega, by go_num, N4.out⟩
      · have ht' : tF F i = false := by simpa using ht
        rw [ht'] at st
        rw [if_neg ht, List.append_nil] at bn
        have BN : Hid (bitsT F (i + 1) = bitsT F i) := bn
        clear ht ht' bn bl
        go_wp2_with fail
        refine st.mono ?_
        clear st
        rintro e w3 ⟨rfl, hb⟩
        have N3 : Hid (Below w.heap.size w w3 ∧ Blm w3 w.heap.size F ∧ OwI w1.heap.size w3 u3 (natI (bitsT F (i + 1))) ∧ w1.heap.size ≤ w3.heap.size) := by
          rw [BN.out]
          exact ⟨SR.out.1.trans (hb.mono SR.out.1.size), SR.out.2.1.keep hb, SR.out.2.2.1.keep hb, Nat.le_trans SR.out.2.2.2 hb.size⟩
        clear hb SR
        go_wp2
        go_roundg (2048 - (i + 1))
        case measure => have := HK.out; omega
        case rel => exact ⟨i + 1, rfl, by omega, by go_num, N3.out⟩
end Go.Proofs.Ytdehcohfcbopkaa
