import Derived.Test.YtahekhamhdfkdaaRjA
import Derived.Test.YtahekhamhdfkdaaRoomy
import Derived.Test.YtahekhamhdfkdaaGet
/- Layer 7: the statement's same, roomy, spared. -/
namespace Go.Proofs.Ytahekhamhdfkdaa
open Go.RowKit Go.Sort


set_option maxRecDepth 100000 in
set_option maxHeartbeats 4000000 in
theorem same7_any {a a' : Option Addr} {b o c b' o' c' : Nat} {X Z : List Int} (hl : X.length < 281474976710656) (ha : Az a b o X) (ha' : Az a' b' o' Z) (w : World) (hz : Bz w b o X) (hz' : Bz w b' o' Z) :
    Calls Try.prog 14 #[.slice a X.length c, .slice a' Z.length c'] w fun e w' => e = .returned (.bool (decide (X = Z))) ∧ Below w.heap.size w w' := by
  by_cases hn : X.length = Z.length
  case neg =>
    have ne : decide (X = Z) = false := decide_eq_false fun e => hn (by rw [e])
    rw [ne]
    have hn' : ¬ ((X.length : Int) = (Z.length : Int)) := by omega
    clear hl ha ha' hz hz' hn ne
    go_enter Try.func14, Try.ntmps14
    go_wp2
    simp [bodyPost, results, Try.results14, go_sem]
    exact Below.refl _ _
  rw [← hn]
  have HH : Hid (Az a b o X ∧ Az a' b' o' Z ∧ X.length = Z.length) := ⟨ha, ha', hn⟩
  have KL : Hid (∀ W, Below w.heap.size w W → Bz W b o X ∧ Bz W b' o' Z) := fun W B => ⟨hz.keep B, hz'.keep B⟩
  have n1 : (X.length : Int) < 281474976710656 := by omega
  clear hl ha ha' hz hz' hn
  go_enter Try.func14, Try.ntmps14
  go_wp2_with fail
  go_loopg [5] X.length (fun k iv wr => ∃ i : Nat, k = X.length - i ∧ i ≤ X.length ∧ iv = .int .i64 i ∧ X.take i = Z.take i ∧ Below w.heap.size w wr)
  case atStart => exact ⟨0, rfl, Nat.zero_le _, rfl, rfl, Below.refl _ _⟩
  case round =>
    obtain ⟨i, hk, hi, rfl, ht, B⟩ := hrel
    have HK : Hid (gk = X.length - i ∧ X.take i = Z.take i) := ⟨hk, ht⟩
    clear hk ht
    by_cases h8 : i = X.length
    · subst h8
      have HT : Hid (X = Z) := by
        have := HK.out.2
        rw [List.take_length, HH.out.2.2, List.take_length] at this
        exact this
      clear HH KL HK
      go_wp2
      simp [bodyPost, results, Try.results14, go_sem]
      exact ⟨HT.out, B⟩
    · have hlt : i < X.length := by omega
      have hlt' : (i : Int) < (X.length : Int) := by omega
      obtain ⟨g1, g2⟩ := KL.out wr B
      have c1 := g1 i hlt
      have c2 := g2 i (by rw [← HH.out.2.2]; exact hlt)
      obtain rfl := HH.out.1.cons (by omega)
      obtain rfl := HH.out.2.1.cons (by rw [← HH.out.2.2]; omega)
      clear g1 g2
      by_cases hx : X.getD i 0 = Z.getD i 0
      · have NX : Hid (X.take (i + 1) = Z.take (i + 1)) := take_same hlt (by rw [← HH.out.2.2]; exact hlt) HK.out.2 hx
        rw [← hx] at c2
        generalize X.getD i 0 = x at *
        have c1' : ∀ n, (wr.drewN n).cell? ⟨b, o + i, none⟩ = some (.int .u8 x) := fun _ => c1
        have c2' : ∀ n, (wr.drewN n).cell? ⟨b', o' + i, none⟩ = some (.int .u8 x) := fun _ => c2
        go_wp2_with fail
        refine wp_region_quiet_lit (by kernel_rfl) (by kernel_rfl) ?_
        repeat (first | go_big_quiet_skip | (go_big_quiet_want; go_big_quiet_op; go_big_quiet_on))
        refine wpQuiet_nil ?_
        rintro w' ⟨n, rfl⟩
        have BN : Hid (Below w.heap.size w (wr.drewN n)) := ⟨B.os, B.tape, B.output, B.size, B.block⟩
        clear c1 c2 c1' c2' B
        generalize wr.drewN n = w2 at *
        go_wp2
        go_roundg (X.length - (i + 1))
        case measure => have := HK.out; omega
        case rel => exact ⟨i + 1, rfl, by omega, by go_num, NX.out, BN.out⟩
      · have NX : Hid (X ≠ Z) := fun e => hx (by rw [e])
        generalize X.getD i 0 = x at *
        generalize Z.getD i 0 = z at *
        have c1' : ∀ n, (wr.drewN n).cell? ⟨b, o + i, none⟩ = some (.int .u8 x) := fun _ => c1
        have c2' : ∀ n, (wr.drewN n).cell? ⟨b', o' + i, none⟩ = some (.int .u8 z) := fun _ => c2
        have HB : Hid ((x != z) = true) := bne_iff_ne.2 hx
        clear hx
        go_wp2_with fail
        refine wp_region_quiet_lit (by kernel_rfl) (by kernel_rfl) ?_
        repeat (first | go_big_quiet_skip | (go_big_quiet_want; go_big_quiet_op; go_big_quiet_on))
        refine wpQuiet_nil ?_
        rintro w' ⟨n, rfl⟩
        have BN : Hid (Below w.heap.size w (wr.drewN n)) := ⟨B.os, B.tape, B.output, B.size, B.block⟩
        clear c1 c2 c1' c2' B
        generalize wr.drewN n = w2 at *
        rw [HB.out]
        go_wp2
        simp [bodyPost, results, Try.results14, go_sem]
        exact ⟨NX.out, BN.out⟩


set_option maxHeartbeats 2000000 in
theorem roomy7_any {A : List Int} {a : Option Addr} {bb ob cb : Nat} (hZ : Az a bb ob A) (hl : A.length ≤ 140737488355328) (w : World) (ha : ∀ i, i < A.length → w.cell? ⟨bb, ob + i, none⟩ = some (.int .u8 (A.getD i 0))) :
    Calls Try.prog 9 #[.slice a A.length cb] w fun e w' => ∃ g, e = .returned (.slice (some ⟨g, 0, none⟩) A.length (A.length + 9)) ∧ w.heap.size ≤ g ∧ Bts w' g (A ++ List.replicate 9 165) ∧ Below w.heap.size w w' := by
  have hl' : (A.length : Int) ≤ 140737488355328 := by omega
  have HZ : Hid (Az a bb ob A) := hZ
  clear hZ
  obtain ⟨i0, hi, hz0, hz1, hz2⟩ := info_parts info_byte
  go_enter Try.func9, Try.ntmps9
  go_wp2_with (first
    | (at_make; refine wpList_make_full _ rfl _ _ 22 rfl w.heap.size 5 i0 (.int .u8 0) 1 Try.underlying22 hi hz0 hz1 .i64 .i64 _ _ (A.length + 9) rfl rfl (by omega) (by omega) (by rw [hz2]; omega) (by unfold maxLen; omega) (Nat.le_refl _) ?_; intro w1 hown hgrow; obtain ⟨hrow, B1, hsrc⟩ := made_facts ha hown hgrow)
    | (refine wpList_copy_splice rfl _ _ 22 22 rfl 5 Try.underlying22 (by kernel_rfl) _ _ (A.length + 9) (A.length + 9) A.length cb rfl rfl w.heap.size 0 (List.replicate (A.length + 9) (Value.int .u8 0)) 5 hrow (A.map (Value.int .u8)) (by simp) (fun h => ⟨rfl, _, HZ.out.cons (by simpa using h), hsrc⟩) (by simp) (fun v hv => by obtain ⟨x, _, rfl⟩ := List.mem_map.1 hv; rfl) w.heap.size w B1 (Nat.le_refl _) ?_; intro w2 hrow2 B2; rw [splice_bytes] at hrow2; clear hown hgrow hrow B1 hsrc))
  have hB : Bts w2 w.heap.size (A ++ List.replicate 9 0) := bts_of_row hrow2.out
  have o1 : w.heap.size ≤ w.heap.size := Nat.le_refl _
  clear hrow2 ha hi hz0 hz1 hz2
  go_loopg [4] 9 (fun k iv wr => ∃ i : Nat, k = 9 - i ∧ i ≤ 9 ∧ iv = .int .i64 ((A.length : Int) + i) ∧ Below w.heap.size w wr ∧ Bts wr w.heap.size (A ++ (List.replicate i 165 ++ List.replicate (9 - i) 0)))
  case atStart => exact ⟨0, rfl, by decide, by simp, B2, by simpa using hB⟩
  case round =>
    clear B2 hB
    obtain ⟨i, hk, hi, rfl, B, hB⟩ := hrel
    have HK : Hid (gk = 9 - i) := hk
    clear hk
    by_cases h8 : i = 9
    · subst h8
      go_wp2
      go_ret
      exact ⟨w.heap.size, rfl, Nat.le_refl _, by simpa using hB, B⟩
    · have hi' : (i : Int) < 9 := by omega
      have e1 : ((A.length : Int) + (i : Int)).toNat = A.length + i := by omega
      have gx := hB.1 (A.length + i) (by simp; omega)
      have fx := hB.2 (A.length + i) (by simp; omega)
      generalize (A ++ (List.replicate i 165 ++ List.replicate (9 - i) 0)).getD (A.length + i) 0 = x at *
      go_wp2
      go_roundg (9 - (i + 1))
      case measure => have := HK.out; omega
      case rel =>
        refine ⟨i + 1, rfl, by omega, by go_num, B.setCell o1 _, ?_⟩
        rw [← room_set A (show i < 9 by omega)]
        exact hB.set (A.length + i) (by simp; omega) 165


end Go.Proofs.Ytahekhamhdfkdaa

/- Layer 7: alike; the lists that the statement gives. -/
namespace Go.Proofs.Ytahekhamhdfkdaa
open Go.RowKit Go.Sort

/-- The texts that were given so far. -/
def GvE (W : World) (gv : Value) (XS : List (List Int)) (VS : List Value) (i : Nat) : Prop := ∀ j, j < i → ∃ gj, VS[j]? = some (.slice (some ⟨gj, 0, none⟩) (XS.getD j []).length ((XS.getD j []).length + 9)) ∧ Bz W gj 0 (XS.getD j [] ++ List.replicate 9 165) ∧ gv.ownBlock ≠ some gj
theorem bz9_lt {W : World} {g : Nat} {X : List Int} (h : Bz W g 0 (X ++ List.replicate 9 165)) : g < W.heap.size := World.block_lt_of_cell? W _ (h 0 (by rw [List.length_append, List.length_replicate]; omega))
theorem Bz.grownE {W W' : World} {g p : Nat} {X : List Int} {row : Option Nat} (h : Bz W g p X) (hg : W.grownBy W' row) (hn : row ≠ some g) : Bz W' g p X := fun i hi => by
  have h1 := h i hi
  have e : W'.heap[g]? = W.heap[g]? := hg.block g (World.block_lt_of_cell? W _ h1) (fun e => hn e.symm)
  rw [← h1]; simp only [World.cell?, e]
theorem GvE.keep {W W' : World} {gv : Value} {XS : List (List Int)} {VS : List Value} {i : Nat} (h : GvE W gv XS VS i) (hb : Below W.heap.size W W') : GvE W' gv XS VS i := fun j hj => by
  obtain ⟨gj, h1, h2, h3⟩ := h j hj
  exact ⟨gj, h1, h2.keep hb, h3⟩
/-- One more, appended. -/
theorem GvE.step {W W' : World} {gv v' : Value} {XS : List (List Int)} {VS : List Value} {i gi : Nat} (hl : VS.length = i) (h : GvE W gv XS VS i) (hz : Bz W gi 0 (XS.getD i [] ++ List.replicate 9 165)) (hn : gv.ownBlock ≠ some gi) (hg : W.grownBy W' gv.ownBlock) (hv : v'.ownBlock = gv.ownBlock ∨ v'.ownBlock = some W.heap.size) :
    GvE W' v' XS (VS ++ [.slice (some ⟨gi, 0, none⟩) (XS.getD i []).length ((XS.getD i []).length + 9)]) (i + 1) := fun j hj => by
  by_cases e : j = i
  · subst e
    refine ⟨gi, by rw [List.getElem?_append_right (by omega), hl, Nat.sub_self]; rfl, hz.grownE hg hn, ?_⟩
    rcases hv with k | k
    · rw [k]; exact hn
    · rw [k]; intro e; have := Option.some.inj e; have := bz9_lt hz; omega
  · obtain ⟨gj, h1, h2, h3⟩ := h j (by omega)
    refine ⟨gj, by rw [List.getElem?_append_left (by omega)]; exact h1, h2.grownE hg h3, ?_⟩
    rcases hv with k | k
    · rw [k]; exact h3
    · rw [k]; intro e; have := Option.some.inj e; have := bz9_lt h2; omega
end Go.Proofs.Ytahekhamhdfkdaa
