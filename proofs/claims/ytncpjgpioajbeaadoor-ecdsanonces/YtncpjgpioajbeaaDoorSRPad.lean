import Derived.Test.YtncpjgpioajbeaaDoorSPad
import Derived.Test.YtncpjgpioajbeaaDoorSRWords
import Derived.Test.YtncpjgpioajbeaaDoorQTail
import Derived.Test.YtncpjgpioajbeaaDoorSRRoots
import Derived.Test.YtncpjgpioajbeaaDoorSComp
/- The document's Pad. -/
namespace Go.Proofs.YtncpjgpioajbeaaDoor.S
open Go.RowKit Go.Sort

theorem own_oneS {W : World} {base : Nat} {x : BitVec 8} (h : base ≤ W.heap.size) {t : TypeId} (et : t = 5) : Own base (W.alloc (.cells #[.int .u8 (Y x)] t)) (.slice (some ⟨W.heap.size, 0, none⟩) 1 1) [x] := by
  subst et
  refine ⟨rfl, .inr ⟨W.heap.size, 1, #[.int .u8 (Y x)], rfl, h, ?_, Nat.le_refl _, by unfold maxLen; decide, rfl, rfl⟩⟩
  show (W.heap.push _)[W.heap.size]? = _
  simp
theorem Own.formS {B : Nat} {W : World} {v : Value} {X : List (BitVec 8)} (h : Own B W v X) : ∃ a c, v = .slice a X.length c := by
  rcases h.2 with ⟨e, hx⟩ | ⟨g, cap, cur, e, _⟩
  · exact ⟨none, 0, by rw [e, hx]⟩
  · exact ⟨_, cap, e⟩
/-- What stands of a filling: the mark and so many zeros. -/
def pz (j : Nat) : List (BitVec 8) := 128 :: List.replicate j 0
theorem pz_len (j : Nat) : (pz j).length = j + 1 := by simp [pz]
theorem pz_snoc (j : Nat) : pz (j + 1) = pz j ++ [0] := by simp [pz, List.replicate_succ']
def pb (n m : Nat) : List (BitVec 8) := pz (zn n) ++ lbs n m
theorem pb_len (n m : Nat) : (pb n m).length = zn n + 1 + m := by simp [pb, pz_len, lbs_len]
theorem pb_0 (n : Nat) : pb n 0 = pz (zn n) := by simp [pb, lbs]
theorem pb_snoc (n m : Nat) : pb n (m + 1) = pb n m ++ [lb n m] := by rw [pb, lbs_succ, ← List.append_assoc]; rfl
theorem pb_8 (n : Nat) : pb n 8 = padL n := by simp [pb, pz, padL]

set_option maxRecDepth 100000 in
set_option maxHeartbeats 8000000 in
theorem rpad_any {n : Nat} (hn : n < 1073741824) (w : World) :
    Calls Tryd.prog 62 #[.int .i64 (n : Int)] w fun e w' => (∃ v, e = .returned (.tuple #[v, .int .i64 0]) ∧ Own w.heap.size w' v (padL n)) ∧ Below w.heap.size w w' := by
  obtain ⟨i0, hi, hz0, hz1, hz2⟩ := info_parts info_byte
  have hn' : (n : Int) < 1073741824 := by omega
  have HN : Hid (n < 1073741824) := hn
  have n0 : ¬ ((n : Int) < 0) := by omega
  have y128 : Y 128 = 128 := by rw [Y_eq]; rfl
  have yz : Hid (Y 0 = 0) := Y_zero
  have HO1 : Hid (Own w.heap.size (w.alloc (.cells #[.int .u8 128] 5)) (.slice (some ⟨w.heap.size, 0, none⟩) 1 1) (pz 0)) := by
    have h := own_oneS (W := w) (base := w.heap.size) (x := 128) (Nat.le_refl _) rfl
    rw [y128] at h
    exact h
  clear hn y128
  go_enter Tryd.func62, Tryd.ntmps62
  go_wp2_with fail
  go_loopg [4] (zn n) (fun k lv wr => ∃ (j : Nat) (a : Option Addr) (c : Nat), k = zn n - j ∧ j ≤ zn n ∧ lv = .slice a (j + 1) c ∧ Own w.heap.size wr lv (pz j) ∧ Below w.heap.size w wr)
  case atStart => exact ⟨0, _, _, rfl, Nat.zero_le _, rfl, HO1.out, (Below.refl _ _).alloc (Nat.le_refl _) _⟩
  case round =>
    clear HO1
    obtain ⟨j, a, c, hk, hj, rfl, hown, B⟩ := hrel
    have HK : Hid (gk = zn n - j) := hk
    have HF : Hid (Own w.heap.size wr (.slice a (j + 1) c) (pz j) ∧ Below w.heap.size w wr) := ⟨hown, B⟩
    have hz := zn_lt n
    clear hk hown B
    by_cases h8 : j = zn n
    · have tz : ((n : Int) % 64 + ((j : Int) + 1) + 8) % 64 = 0 := by rw [h8, zn]; omega
      have j64 : (j : Int) < 64 := by omega
      have HJ : Hid (j = zn n) := h8
      clear h8 hj hz
      go_wp2_with fail
      have HG : Hid (Own w.heap.size wr (.slice a (j + 1) c) (pb n 0) ∧ Below w.heap.size w wr) := by rw [pb_0, ← HJ.out]; exact HF.out
      obtain ⟨P, hP⟩ : ∃ P : Nat, P = 8 * n := ⟨_, rfl⟩
      have eP : (n : Int) * 8 = (P : Int) := by omega
      have HP : Hid (P = 8 * n % 18446744073709551616) := (by have := HN.out; rw [hP]; omega : P = 8 * n % 18446744073709551616)
      have P1 : (P : Int) < 8589934592 := by have := HN.out; omega
      rw [eP]
      have PH : Hid ((P : Int) < 8589934592) := P1
      clear eP hP HF tz j64 P1
      generalize Value.slice a (j + 1) c = v0 at *
      go_loopg [4, 6] 8 (fun k lv iv wr => ∃ (i : Nat) (jv : Int), k = i ∧ i ≤ 8 ∧ iv = .int .i64 jv ∧ jv = (i : Int) - 1 ∧ Own w.heap.size wr lv (pb n (8 - i)) ∧ Below w.heap.size w wr)
      case atStart => exact ⟨8, 7, rfl, by decide, rfl, by decide, HG.out.1, HG.out.2⟩
      case round =>
        clear HG
        obtain ⟨i, jv, hk, hi8, rfl, hj, hown, B⟩ := hrel
        have HK2 : Hid (gk = i) := hk
        clear hk
        cases i with
        | zero =>
          obtain rfl : jv = -1 := by omega
          have HF : Hid (Own w.heap.size wr u4 (padL n) ∧ Below w.heap.size w wr) := by
            rw [← pb_8]; exact ⟨hown, B⟩
          clear hj hown B
          go_wp2
          refine bodyPost_ret (v := .tuple #[u4, .int .i64 0]) ?_ rfl ⟨⟨_, rfl, HF.out.1⟩, HF.out.2⟩
          simp [results, Tryd.results62, go_sem]
        | succ i =>
          obtain rfl : jv = (i : Int) := by omega
          obtain ⟨m, em⟩ : ∃ m : Nat, m = 8 - (i + 1) := ⟨_, rfl⟩
          rw [← em] at hown
          have HF : Hid (Own w.heap.size wr u4 (pb n m) ∧ Below w.heap.size w wr) := ⟨hown, B⟩
          have NX : Hid (pb n (8 - i) = pb n m ++ [lb n m]) := by rw [show 8 - i = m + 1 by omega]; exact pb_snoc n m
          have LR : Hid ((pb n m).length < 200) := (by rw [pb_len]; have := zn_lt n; omega : (pb n m).length < 200)
          have hb := Y_lb (n := n) (i := m) HP.out
          rw [show 56 - 8 * m = 8 * i by omega, IntKind.wrap_u8'] at hb
          have i0' : (0 : Int) ≤ (i : Int) := by omega
          have i1' : (i : Int) < 8 := by omega
          have e8 : (8 * (i : Int)).toNat = 8 * i := by omega
          have q8 : 8 * i < 64 := by omega
          generalize lb n m = x at *
          clear hj hown B em
          go_wp2_with ((at_builtin; go_loud (refine wpList_append_own_at _ rfl _ _ 46 rfl w.heap.size 5 i0 (.int .u8 0) 1 1 Tryd.underlying46 hi hz0 hz1 hz2 rfl (by decide) u4 _ _ rfl (HF.out.1.row.alloc _) ⟨wr.heap.size, 0, none⟩ 1 1 [.int .u8 (Y x)] rfl rfl (cell_one_new _ _ _) (fun u hu => by simp at hu; subst hu; rfl) (by unfold maxLen; have := LR.out; omega) (by have := LR.out; omega) (by have := HF.out.2.size; simp; omega) ?_); intro v' w3 hown' hgrow3 hnil3 hblk))
          have HO : Hid (Own w.heap.size w3 v' (pb n (8 - i)) ∧ Below w.heap.size w w3) := by
            refine ⟨?_, ?_⟩
            · rw [NX.out, Own, List.length_append, ← byts_snoc]
              exact hown'
            · exact (HF.out.2.alloc HF.out.2.size _).grown hgrow3 (by have := HF.out.2.size; simp; omega) (fun k hk => (HF.out.1.row.lt k hk).1)
          clear hown' hgrow3 hnil3 hblk
          go_wp2
          go_roundg i
          case measure => have := HK2.out; omega
          case rel => exact ⟨i, _, rfl, by omega, rfl, by omega, HO.out.1, HO.out.2⟩
    · have tz : ((n : Int) % 64 + ((j : Int) + 1) + 8) % 64 ≠ 0 := by
        have h1 : j < zn n := by omega
        rw [zn] at h1; omega
      have m0 : 0 ≤ (n : Int) % 64 := by omega
      have m1 : (n : Int) % 64 < 64 := by omega
      have t1 : ¬ (((n : Int) + ((j : Int) + 1) + 8) % 64 = 0) := by omega
      have t2 : ((((n : Int) + ((j : Int) + 1) + 8) % 64) == 0) = false := beq_eq_false_iff_ne.2 t1
      have t3 : ((((n : Int) % 64 + ((j : Int) + 1) + 8) % 64) == 0) = false := beq_eq_false_iff_ne.2 tz
      have t5 : ((((n : Int) + ((j : Int) + 1) + 8) % 64) != 0) = true := by rw [bne, t2]; rfl
      have t6 : ((((n : Int) % 64 + ((j : Int) + 1) + 8) % 64) != 0) = true := by rw [bne, t3]; rfl
      clear t1
      clear tz
      have j64 : (j : Int) < 64 := by omega
      have HJ : Hid (j < zn n ∧ j < 64) := ⟨by omega, by omega⟩
      have LR : Hid ((pz j).length = j + 1) := pz_len j
      clear h8 hj hz
      go_wp2_with ((at_builtin; go_loud (refine wpList_append_own_at _ rfl _ _ 46 rfl w.heap.size 5 i0 (.int .u8 0) 1 1 Tryd.underlying46 hi hz0 hz1 hz2 rfl (by decide) (.slice a (j + 1) c) _ _ rfl (HF.out.1.row.alloc _) ⟨wr.heap.size, 0, none⟩ 1 1 [.int .u8 0] rfl rfl (cell_one_new _ _ _) (fun u hu => by simp at hu; subst hu; rfl) (by unfold maxLen; have := LR.out; have := HJ.out; omega) (by have := LR.out; have := HJ.out; omega) (by have := HF.out.2.size; simp; omega) ?_); intro v' w3 hown' hgrow3 hnil3 hblk))
      have HO : Hid (Own w.heap.size w3 v' (pz (j + 1)) ∧ Below w.heap.size w w3) := by
        refine ⟨?_, ?_⟩
        · rw [pz_snoc, Own, List.length_append, ← byts_snoc, yz.out]
          exact hown'
        · exact (HF.out.2.alloc HF.out.2.size _).grown hgrow3 (by have := HF.out.2.size; simp; omega) (fun k hk => (HF.out.1.row.lt k hk).1)
      clear hown' hgrow3 hnil3 hblk
      obtain ⟨a', c', rfl⟩ := HO.out.1.formS
      rw [pz_len] at HO
      rw [pz_len]
      go_wp2
      go_roundg (zn n - (j + 1))
      case measure => have := HK.out; have := HJ.out; omega
      case rel => exact ⟨j + 1, a', c', rfl, by have := HJ.out; omega, rfl, HO.out.1, HO.out.2⟩
end Go.Proofs.YtncpjgpioajbeaaDoor.S

/- The document's Start and Compress. -/
namespace Go.Proofs.YtncpjgpioajbeaaDoor.S
open Go.RowKit Go.Sort

set_option maxRecDepth 100000 in
set_option maxHeartbeats 4000000 in
theorem rstart_any (w : World) : Calls Tryd.prog 64 #[] w fun e w' => e = .returned (.agg (wrds hN).toArray) ∧ Below w.heap.size w w' := by
  obtain ⟨HL, kH⟩ : ∃ L, L = hN := ⟨_, rfl⟩
  have KH : Hid (HL = hN ∧ HL.length = 8) := ⟨kH, by rw [kH]; rfl⟩
  rw [← kH]
  clear kH
  go_enter Tryd.func64, Tryd.ntmps64
  go_wp2_with fail
  refine calls_world (fun W => Below w.heap.size w W ∧ E8 W w.heap.size (List.replicate 8 0)) ⟨(Below.refl _ _).alloc (Nat.le_refl _) _, E8.zeros _ rfl⟩ ?_
  rintro W ⟨b0, hR⟩
  refine (roots_2 _).mono ?_
  rintro e W2 ⟨⟨v, rfl, ho⟩, hb⟩
  rw [← KH.out.1] at ho
  obtain ⟨g, c, rfl, hw, gw⟩ := ho.rw' (by rw [KH.out.2]; decide)
  rw [KH.out.2]
  have H2 : Hid (Below w.heap.size w W2 ∧ E8 W2 w.heap.size (List.replicate 8 0) ∧ Rw W2 g HL) := ⟨b0.trans (hb.mono b0.size), hR.keep hb, hw⟩
  clear hb b0 hR hw gw ho W
  go_wp2_with fail
  refine wp_world (fun V => Below w.heap.size w V ∧ E8 V w.heap.size (List.replicate 8 0) ∧ Rw V g HL ∧ E8 V W2.heap.size (List.replicate 8 0)) ⟨H2.out.1.alloc H2.out.1.size _, H2.out.2.1.allocA _, H2.out.2.2.alloc _, E8.zeros _ rfl⟩ ?_
  have NB : Hid (W2.heap.size ≠ w.heap.size ∧ W2.heap.size ≠ g ∧ w.heap.size ≤ W2.heap.size) := ⟨Nat.ne_of_gt H2.out.2.1.lt, Nat.ne_of_gt (H2.out.2.2.lt (by rw [KH.out.2]; decide)), H2.out.1.size⟩
  clear H2
  rintro V hV
  have HV : Hid (Below w.heap.size w V ∧ E8 V w.heap.size (List.replicate 8 0) ∧ Rw V g HL ∧ E8 V W2.heap.size (List.replicate 8 0)) := hV
  clear hV
  generalize W2.heap.size = bh at *
  clear W2
  go_loopg [3] 8 (fun n iv wr => ∃ (i : Nat) (N : List (BitVec 32)), n = 8 - i ∧ i ≤ 8 ∧ iv = .int .i64 i ∧ (∀ j, j < i → N.getD j 0 = HL.getD j 0) ∧ (Below w.heap.size w wr ∧ E8 wr w.heap.size (List.replicate 8 0) ∧ Rw wr g HL ∧ E8 wr bh N))
  case atStart => exact ⟨0, _, rfl, by decide, rfl, fun j h => absurd h (Nat.not_lt_zero _), HV.out⟩
  case round =>
    clear HV V
    obtain ⟨i, N, hk, hi, rfl, ev, hf⟩ := hrel
    have HK : Hid (gk = 8 - i) := hk
    have EV : Hid (∀ j, j < i → N.getD j 0 = HL.getD j 0) := ev
    have HG : Hid (Below w.heap.size w wr ∧ E8 wr w.heap.size (List.replicate 8 0) ∧ Rw wr g HL ∧ E8 wr bh N) := hf
    clear hk ev hf
    by_cases h8 : i = 8
    · subst h8
      have eN : N = HL := by
        apply List.ext_getElem (by rw [HG.out.2.2.2.1, KH.out.2])
        intro j h1 h2
        have := EV.out j (by rw [HG.out.2.2.2.1] at h1; omega)
        rw [List.getD, List.getElem?_eq_getElem h1, List.getD, List.getElem?_eq_getElem h2] at this
        simpa using this
      subst eN
      have rb := HG.out.2.2.2.2.1.range
      have lN : Hid ((wrds N).length = 8) := by rw [wrds_len]; exact KH.out.2
      have sz : ((wrds N).toArray).size = 8 := by simp [lN.out]
      have oc := one_wrds N
      have il : (Tryd.prog.info? 58).map (·.size) = some ((wrds N).toArray).size := by rw [sz]; kernel_rfl
      have il2 : (Tryd.prog.info? 58).map (·.size) = some (wrds N).length := by rw [lN.out]; kernel_rfl
      have tr : wr.there w.heap.size 0 ((wrds N).toArray).size := by rw [sz]; exact HG.out.2.1.there
      clear EV sz
      go_wp2_with (first | ((with_reducible refine wpList_load_at (ty := 58) bh 0 (wrds N) _ rb Tryd.underlying58 ?_ il2 ?_ ?_); rfl; rfl; simp only [Act.put, List.setIfInBounds_toArray, List.set_cons_succ, List.set_cons_zero]) | ((with_reducible refine wpList_store_at (ty := 58) w.heap.size 0 (wrds N).toArray tr il oc ?_ ?_ ?_); rfl; rfl))
      have ld := run_loadVar_mid (P := Tryd.prog) (wr.setCells w.heap.size 0 (wrds N)) w.heap.size 0 58 (wrds N) _ (World.rangeAt_setCells_same _ _ _ _ (by simpa using tr)) Tryd.underlying58 rfl (by rw [lN.out]; kernel_rfl)
      refine bodyPost_ret (v := .agg (wrds N).toArray) ?_ rfl ⟨rfl, below_setCells (Nat.le_refl _) (wrds N) 0 wr HG.out.1⟩
      simp [results, Tryd.results64, Act.put, asAddr, ld]
    · have hi' : (i : Int) < 8 := by omega
      have gx := HG.out.2.2.1 i (by rw [KH.out.2]; omega)
      have gb := HG.out.2.2.2.at (i := i) (by omega)
      have fx := HG.out.2.2.2.2.2 i (by omega)
      obtain ⟨x, kx⟩ : ∃ x, x = HL.getD i 0 := ⟨_, rfl⟩
      rw [← kx] at gx
      have KX : Hid (x = HL.getD i 0) := kx
      clear kx
      go_wp2
      go_roundg (8 - (i + 1))
      case measure => have := HK.out; omega
      case rel =>
        refine ⟨i + 1, N.set i x, rfl, by omega, by go_num, fun j h1 => ?_, HG.out.1.setCell NB.out.2.2 _, HG.out.2.1.otherA NB.out.1 _, HG.out.2.2.1.other NB.out.2.1 _, HG.out.2.2.2.setA (by omega) _⟩
        by_cases ce : j = i
        · subst ce
          rw [List.getD, List.getElem?_set_self (by rw [HG.out.2.2.2.1]; omega), Option.getD_some]; exact KX.out
        · rw [List.getD, List.getElem?_set_ne (by omega), ← List.getD]; exact EV.out j (by omega)

end Go.Proofs.YtncpjgpioajbeaaDoor.S

/- The document's digest. -/
namespace Go.Proofs.YtncpjgpioajbeaaDoor.S
open Go.RowKit Go.Sort

theorem blk_byo {W : World} {g n : Nat} {F : List (BitVec 8)} (h : Byo W g 0 F) (hn : 64 * n + 64 ≤ F.length) : Byo W g (64 * n) (blk F n) := fun i hi => by
  rw [blk_len hn] at hi
  have := h (64 * n + i) (by omega)
  rw [Nat.zero_add] at this
  rw [this, blk, List.getD, List.getD, List.getElem?_take_of_lt hi, List.getElem?_drop]
set_option maxRecDepth 100000 in
set_option maxHeartbeats 8000000 in
theorem rdig_any {a : Option Addr} {bd od cd : Nat} {X : List (BitVec 8)} (hl : X.length < 1073740000) (hc : X.length ≤ cd) (ha : At a bd od X) (w : World) (hX : Byo w bd od X) :
    Calls Tryd.prog 51 #[.slice a X.length cd] w fun e w' => e = .returned (.agg (byts (shaL X)).toArray) ∧ Below w.heap.size w w' := by
  have HX : Hid (X.length < 1073740000 ∧ X.length ≤ cd ∧ At a bd od X ∧ Byo w bd od X) := ⟨hl, hc, ha, hX⟩
  have hl' : (X.length : Int) < 1073740000 := by omega
  clear hl hc ha hX
  go_enter Tryd.func51, Tryd.ntmps51
  go_wp2_with fail
  refine calls_world (fun W => Below w.heap.size w W ∧ Hsh W w.heap.size (List.replicate 32 0)) ⟨(Below.refl _ _).alloc (Nat.le_refl _) _, Hsh.zeros _ rfl⟩ ?_
  rintro W ⟨b0, hR⟩
  refine (rpad_any (by have := HX.out.1; omega) _).mono ?_
  rintro e w1 ⟨⟨v, rfl, ho⟩, hb⟩
  obtain ⟨gp, cp, rfl, hcp⟩ := own_form ho (by rw [padL_len]; omega)
  have hp : Byo w1 gp 0 (padL X.length) := fun i hi => by
    rw [Nat.zero_add, ho.row.cellAt i (by omega), byts, List.getElem?_map, List.getElem?_eq_getElem hi, List.getD, List.getElem?_eq_getElem hi]; rfl
  have H1 : Hid (Below w.heap.size w w1 ∧ Hsh w1 w.heap.size (List.replicate 32 0) ∧ Byo w1 gp 0 (padL X.length) ∧ (padL X.length).length ≤ cp) := ⟨b0.trans (hb.mono b0.size), hR.keep hb, hp, hcp⟩
  clear hb b0 hR hp hcp ho W
  go_wp2_with fail
  have B1 : ∀ o, Below w1.heap.size w1 (w1.alloc o) := fun o => (Below.refl _ _).alloc (Nat.le_refl _) _
  refine calls_world (fun W => Below w.heap.size w W ∧ Hsh W w.heap.size (List.replicate 32 0) ∧ Prts W w1.heap.size 0 [⟨a, bd, od, cd, X⟩, ⟨some ⟨gp, 0, none⟩, gp, 0, cp, padL X.length⟩]) ⟨H1.out.1.trans ((B1 _).mono H1.out.1.size), H1.out.2.1.keep (B1 _), fun i hi => ?_⟩ ?_
  · have : i = 0 ∨ i = 1 := by have : i < 2 := hi; omega
    rcases this with rfl | rfl
    · exact ⟨by rw [Nat.zero_add, World.cell?_alloc_mark]; rfl, HX.out.2.2.1, HX.out.2.1, (HX.out.2.2.2.keep H1.out.1).keep (B1 _)⟩
    · exact ⟨by rw [Nat.zero_add, World.cell?_alloc_mark]; rfl, .inr rfl, H1.out.2.2.2, H1.out.2.2.1.keep (B1 _)⟩
  rintro W ⟨b0, hR, hP⟩
  have ec : catX [⟨a, bd, od, cd, X⟩, ⟨some ⟨gp, 0, none⟩, gp, 0, cp, padL X.length⟩] = fullX X := by simp [catX, fullX]
  have lf : (fullX X).length = X.length + (zn X.length + 9) := by rw [fullX_len, padL_len]
  have zl := zn_lt X.length
  refine (rjoined_any (PS := [⟨a, bd, od, cd, X⟩, ⟨some ⟨gp, 0, none⟩, gp, 0, cp, padL X.length⟩]) (a := some ⟨w1.heap.size, 0, none⟩) (bp := w1.heap.size) (op := 0) (cp := 2) (by rw [ec, lf]; have := HX.out.1; omega) (by show 2 ≤ _; omega) (.inr rfl) _ hP).mono ?_
  rw [ec]
  rintro e w2 ⟨v, rfl, ho, hb⟩
  obtain ⟨F, kF⟩ : ∃ F, F = fullX X := ⟨_, rfl⟩
  have fm : F.length % 64 = 0 := by rw [kF, fullX_len]; exact pad_whole X.length
  rw [← kF] at ho lf
  obtain ⟨gf, cf, rfl, hcf⟩ := own_form ho (by omega)
  have hF : Byo w2 gf 0 F := fun i hi => by
    rw [Nat.zero_add, ho.row.cellAt i (by omega), byts, List.getElem?_map, List.getElem?_eq_getElem hi, List.getD, List.getElem?_eq_getElem hi]; rfl
  have H2 : Hid (Below w.heap.size w w2 ∧ Hsh w2 w.heap.size (List.replicate 32 0) ∧ Byo w2 gf 0 F) := ⟨b0.trans (hb.mono b0.size), hR.keep hb, hF⟩
  have KF : Hid (F = fullX X) := kF
  have LF : Hid (F.length % 64 = 0 ∧ F.length < 1073741824 ∧ F.length ≤ cf) := ⟨fm, by have := HX.out.1; omega, hcf⟩
  have lfi : (F.length : Int) < 1073741824 := by have := LF.out; omega
  have cfi : (F.length : Int) ≤ (cf : Int) := by omega
  clear hb b0 hR hP hF ho ec lf zl fm kF hcf W H1 B1
  go_wp2_with fail
  refine (roots_3 _).mono ?_
  rintro e w3 ⟨⟨v, rfl, ho⟩, hb⟩
  obtain ⟨gq, ck, rfl, hK, gqq⟩ := ho.rw' (by decide)
  rw [show kN.length = 64 from rfl]
  have H3 : Hid (Below w.heap.size w w3 ∧ Hsh w3 w.heap.size (List.replicate 32 0) ∧ Byo w3 gf 0 F ∧ Rw w3 gq kN) := ⟨H2.out.1.trans (hb.mono H2.out.1.size), H2.out.2.1.keep hb, H2.out.2.2.keep hb, hK⟩
  clear hb ho hK gqq H2
  go_wp2_with fail
  refine (rstart_any _).mono ?_
  rintro e w4 ⟨rfl, hb⟩
  have H4 : Hid (Below w.heap.size w w4 ∧ Hsh w4 w.heap.size (List.replicate 32 0) ∧ Byo w4 gf 0 F ∧ Rw w4 gq kN) := ⟨H3.out.1.trans (hb.mono H3.out.1.size), H3.out.2.1.keep hb, H3.out.2.2.1.keep hb, H3.out.2.2.2.keep hb⟩
  clear hb H3
  obtain ⟨S0, kS0⟩ : ∃ S, S = hN := ⟨_, rfl⟩
  have KS0 : Hid (S0 = hN ∧ S0.length = 8) := ⟨kS0, by rw [kS0]; rfl⟩
  rw [← kS0]
  clear kS0
  have isC : (Tryd.prog.info? 58).map (·.size) = some (wrds S0).toArray.size := by rw [List.size_toArray, wrds_len, KS0.out.2]; kernel_rfl
  have ocC := one_wrds S0
  have thz : ∀ t, (w4.alloc (.cells #[.int .u32 0, .int .u32 0, .int .u32 0, .int .u32 0, .int .u32 0, .int .u32 0, .int .u32 0, .int .u32 0] t)).there w4.heap.size 0 (wrds S0).toArray.size := fun t => by
    rw [show (wrds S0).toArray.size = 8 by simp [wrds_len, KS0.out.2]]; exact (E8.zeros t rfl).there
  have B4 : ∀ t, Below w4.heap.size w4 ((w4.alloc (.cells #[.int .u32 0, .int .u32 0, .int .u32 0, .int .u32 0, .int .u32 0, .int .u32 0, .int .u32 0, .int .u32 0] t)).setCells w4.heap.size 0 (wrds S0)) := fun t => below_setCells (Nat.le_refl _) _ 0 _ ((Below.refl _ _).alloc (Nat.le_refl _) _)
  have F4 : ∀ t, Hid ((Below w.heap.size w ((w4.alloc (.cells #[.int .u32 0, .int .u32 0, .int .u32 0, .int .u32 0, .int .u32 0, .int .u32 0, .int .u32 0, .int .u32 0] t)).setCells w4.heap.size 0 (wrds S0)) ∧ Hsh ((w4.alloc (.cells #[.int .u32 0, .int .u32 0, .int .u32 0, .int .u32 0, .int .u32 0, .int .u32 0, .int .u32 0, .int .u32 0] t)).setCells w4.heap.size 0 (wrds S0)) w.heap.size (List.replicate 32 0) ∧ Byo ((w4.alloc (.cells #[.int .u32 0, .int .u32 0, .int .u32 0, .int .u32 0, .int .u32 0, .int .u32 0, .int .u32 0, .int .u32 0] t)).setCells w4.heap.size 0 (wrds S0)) gf 0 F ∧ Rw ((w4.alloc (.cells #[.int .u32 0, .int .u32 0, .int .u32 0, .int .u32 0, .int .u32 0, .int .u32 0, .int .u32 0, .int .u32 0] t)).setCells w4.heap.size 0 (wrds S0)) gq kN) ∧ E8 ((w4.alloc (.cells #[.int .u32 0, .int .u32 0, .int .u32 0, .int .u32 0, .int .u32 0, .int .u32 0, .int .u32 0, .int .u32 0] t)).setCells w4.heap.size 0 (wrds S0)) w4.heap.size S0) := fun t => ⟨⟨H4.out.1.trans ((B4 t).mono H4.out.1.size), H4.out.2.1.keep (B4 t), H4.out.2.2.1.keep (B4 t), H4.out.2.2.2.keep (B4 t)⟩, (E8.zeros t rfl).stored KS0.out.2⟩
  have NB4 : Hid (w4.heap.size ≠ w.heap.size ∧ w4.heap.size ≠ gf ∧ w4.heap.size ≠ gq ∧ w.heap.size ≤ w4.heap.size) := ⟨Nat.ne_of_gt H4.out.2.1.lt, Nat.ne_of_gt (World.block_lt_of_cell? _ _ (H4.out.2.2.1 0 (by have h := LF.out; have := KF.out; rw [KF.out, fullX_len, padL_len]; omega))), Nat.ne_of_gt (H4.out.2.2.2.lt (by decide)), H4.out.1.size⟩
  clear B4 H4
  go_wp2_with ((with_reducible refine wpList_store_at (ty := 58) w4.heap.size 0 (wrds S0).toArray (thz _) isC ocC ?_ ?_ ?_); rfl; rfl; refine wpList_world (fun W => (Below w.heap.size w W ∧ Hsh W w.heap.size (List.replicate 32 0) ∧ Byo W gf 0 F ∧ Rw W gq kN) ∧ E8 W w4.heap.size S0) (F4 _).out ?_; clear F4 thz isC ocC; rintro W hW)
  have HW : Hid ((Below w.heap.size w W ∧ Hsh W w.heap.size (List.replicate 32 0) ∧ Byo W gf 0 F ∧ Rw W gq kN) ∧ E8 W w4.heap.size (stAt F 0)) := by rw [show stAt F 0 = S0 from KS0.out.1.symm]; exact hW
  clear hW KS0
  generalize w4.heap.size = bs at *
  go_loopg [8] (F.length / 64) (fun k iv wr => ∃ n : Nat, k = F.length / 64 - n ∧ n ≤ F.length / 64 ∧ iv = .int .i64 (64 * (n : Int)) ∧ (Below w.heap.size w wr ∧ Hsh wr w.heap.size (List.replicate 32 0) ∧ Byo wr gf 0 F ∧ Rw wr gq kN) ∧ E8 wr bs (stAt F n))
  case atStart => exact ⟨0, rfl, Nat.zero_le _, rfl, HW.out⟩
  case round =>
    clear HW
    obtain ⟨n, hk, hn, rfl, hf⟩ := hrel
    have HK : Hid (gk = F.length / 64 - n) := hk
    have HQ : Hid (Rw wr gq kN) := hf.1.2.2.2
    have HF : Hid (Below w.heap.size w wr ∧ Hsh wr w.heap.size (List.replicate 32 0) ∧ Byo wr gf 0 F ∧ E8 wr bs (stAt F n)) := ⟨hf.1.1, hf.1.2.1, hf.1.2.2.1, hf.2⟩
    clear hk hf
    by_cases h8 : n = F.length / 64
    · have nx : ¬ (64 * (n : Int) < (F.length : Int)) := by have := LF.out; omega
      clear HQ
      have S8 : Hid (shaL X = hashS (stAt F n) ∧ (stAt F n).length = 8) := ⟨by rw [h8, KF.out]; exact rfl, stAt_len _ _⟩
      have H8 : Hid (E8 wr bs (stAt F n)) := HF.out.2.2.2
      obtain ⟨S, kS⟩ : ∃ S, S = stAt F n := ⟨_, rfl⟩
      rw [← kS] at S8 H8
      have HG : Hid (Below w.heap.size w wr ∧ Hsh wr w.heap.size (List.replicate 32 0)) := ⟨HF.out.1, HF.out.2.1⟩
      clear HF kS h8 hn
      go_wp2_with fail
      refine wp_world (fun W => Below w.heap.size w W ∧ Hsh W w.heap.size (List.replicate 32 0) ∧ Wds W bs 0 S ∧ Hsh W wr.heap.size (List.replicate 32 0)) ⟨HG.out.1.alloc HG.out.1.size _, HG.out.2.alloc _, H8.out.2.1.alloc _, Hsh.zeros _ rfl⟩ ?_
      rintro W ⟨hB, hR, hA, hO⟩
      have NB : Hid (wr.heap.size ≠ w.heap.size ∧ wr.heap.size ≠ bs ∧ w.heap.size ≤ wr.heap.size) := by
        have h1 := HG.out.2.lt
        have h2 := H8.out.lt
        exact ⟨by omega, by omega, HG.out.1.size⟩
      clear HG H8
      generalize wr.heap.size = bo at *
      go_loopg [10] 32 (fun k iv wr => ∃ (i : Nat) (M : List (BitVec 8)), k = 32 - i ∧ i ≤ 32 ∧ iv = .int .i64 i ∧ (∀ t, t < i → M.getD t 0 = cut8 (S.getD (t / 4) 0) (24 - t % 4 * 8)) ∧ Below w.heap.size w wr ∧ Wds wr bs 0 S ∧ Hsh wr w.heap.size (List.replicate 32 0) ∧ Hsh wr bo M)
      case atStart => exact ⟨0, _, rfl, by decide, rfl, fun t h => absurd h (Nat.not_lt_zero _), hB, hA, hR, hO⟩
      case round =>
        clear hB hA hR hO
        obtain ⟨i, M, hk, hi, rfl, up, hf⟩ := hrel
        have HK2 : Hid (gk = 32 - i) := hk
        have HF : Hid (Below w.heap.size w wr ∧ Wds wr bs 0 S ∧ Hsh wr w.heap.size (List.replicate 32 0) ∧ Hsh wr bo M) := hf
        have UP : Hid (∀ t, t < i → M.getD t 0 = cut8 (S.getD (t / 4) 0) (24 - t % 4 * 8)) := up
        clear hk hf up
        by_cases h9 : i = 32
        · subst h9
          have EL : Hid (M = hashS S) := hashS_ext HF.out.2.2.2.1 UP.out
          have rb := HF.out.2.2.2.range
          have sz : ((byts M).toArray).size = 32 := by simp [byts_len, HF.out.2.2.2.1]
          have tr : wr.there w.heap.size 0 ((byts M).toArray).size := by rw [sz]; exact HF.out.2.2.1.there
          have oc := one_byts M
          obtain ⟨N, kN⟩ : ∃ N, byts M = N := ⟨_, rfl⟩
          rw [kN] at rb sz tr oc
          have HM : Hid (N.length = 32 ∧ byts (shaL X) = N) := ⟨by rw [← kN, byts_len]; exact HF.out.2.2.2.1, by rw [S8.out.1, ← EL.out, kN]⟩
          clear kN
          have il : (Tryd.prog.info? 26).map (·.size) = some N.length := by rw [HM.out.1]; kernel_rfl
          have il3 : (Tryd.prog.info? 26).map (·.size) = some N.toArray.size := by rw [sz]; kernel_rfl
          go_wp2_with (first
            | ((with_reducible refine wpList_load_at (ty := 26) bo 0 N _ rb Tryd.underlying26 ?_ il ?_ ?_); rfl; rfl; simp only [Act.put, List.setIfInBounds_toArray, List.set_cons_succ, List.set_cons_zero])
            | ((with_reducible refine wpList_store_at (ty := 26) w.heap.size 0 N.toArray tr il3 oc ?_ ?_ ?_); rfl; rfl))
          have ld := run_loadVar_mid (P := Tryd.prog) (wr.setCells w.heap.size 0 N) w.heap.size 0 26 N _ (World.rangeAt_setCells_same _ _ _ _ (by simpa using tr)) Tryd.underlying26 rfl il
          refine bodyPost_ret (v := .agg N.toArray) ?_ rfl ⟨by rw [HM.out.2], below_setCells (Nat.le_refl _) N 0 wr HF.out.1⟩
          simp [results, Tryd.results51, Act.put, asAddr, ld]
        · have hi' : (i : Int) < 32 := by omega
          have e1 : ((i : Int) / 4).toNat = i / 4 := by omega
          have e2 : (24 - 8 * ((i : Int) % 4)).toNat = 24 - i % 4 * 8 := by omega
          have g0 := HF.out.2.1 (i / 4) (by rw [S8.out.2]; omega)
          rw [Nat.zero_add] at g0
          have gs := HF.out.2.2.2.2.1 i (by omega)
          have fs := HF.out.2.2.2.2.2 i (by omega)
          obtain ⟨z, kz⟩ : ∃ z, z = S.getD (i / 4) 0 := ⟨_, rfl⟩
          rw [← kz] at g0
          have KZ : Hid (z = S.getD (i / 4) 0) := kz
          clear kz
          have v0 := U_lo z; have v1 := U_hi z
          have vd := Y_cut z (24 - i % 4 * 8)
          go_wp2
          go_roundg (32 - (i + 1))
          case measure => have := HK2.out; omega
          case rel =>
            refine ⟨i + 1, M.set i (cut8 z (24 - i % 4 * 8)), rfl, by omega, by go_num, fun t ht => ?_, HF.out.1.setCell NB.out.2.2 _, HF.out.2.1.other NB.out.2.1 _, HF.out.2.2.1.other NB.out.1 _, HF.out.2.2.2.set i (by omega) _⟩
            by_cases e : t = i
            · subst e; rw [← KZ.out]; simp [List.getD, HF.out.2.2.2.1, show t < 32 by omega]
            · rw [← UP.out t (by omega)]; simp [List.getD, List.getElem?_set_ne (Ne.symm e)]
    · have hx : 64 * n + 64 ≤ F.length := by have := LF.out; omega
      have NX : Hid (stAt F (n + 1) = compL (stAt F n) (blk F n)) := rfl
      have HB : Hid ((blk F n).length = 64 ∧ 64 * n + 64 ≤ F.length ∧ n < F.length / 64) := ⟨blk_len hx, hx, by omega⟩
      have lS := stAt_len F n
      obtain ⟨S, kS⟩ : ∃ S, S = stAt F n := ⟨_, rfl⟩
      rw [← kS] at HF NX lS
      clear kS
      obtain ⟨s0, s1, s2, s3, s4, s5, s6, s7, rfl⟩ := eight lS
      have RC : Hid (∀ W, Byo W gf 0 F → Rw W gq kN → Calls Tryd.prog 65 #[.agg #[.int .u32 (U s0), .int .u32 (U s1), .int .u32 (U s2), .int .u32 (U s3), .int .u32 (U s4), .int .u32 (U s5), .int .u32 (U s6), .int .u32 (U s7)], .slice (some ⟨gf, 64 * n, none⟩) 64 (cf - 64 * n), .slice (some ⟨gq, 0, none⟩) 64 ck] W fun e w' => e = .returned (.agg (wrds (compL [s0, s1, s2, s3, s4, s5, s6, s7] (blk F n))).toArray) ∧ Below W.heap.size W w') := fun W h1 h2 => rounds_any (S := [s0, s1, s2, s3, s4, s5, s6, s7]) rfl HB.out.1 W (blk_byo h1 HB.out.2.1) h2
      obtain ⟨N, kN'⟩ : ∃ N, N = compL [s0, s1, s2, s3, s4, s5, s6, s7] (blk F n) := ⟨_, rfl⟩
      rw [← kN'] at RC NX
      have LN : Hid (N.length = 8) := by rw [kN']; exact compL_len _ _
      clear kN' lS
      obtain ⟨x, ex⟩ : ∃ x : Nat, x = 64 * n := ⟨_, rfl⟩
      have e64 : 64 * (n : Int) = (x : Int) := by omega
      have EX : Hid (x = 64 * n) := ex
      rw [← ex] at RC
      rw [e64]
      have x1 : (x : Int) < (F.length : Int) := by omega
      have x2 : (x : Int) + 64 ≤ (cf : Int) := by have := LF.out; omega
      have x3 : (x : Int) < 1073741824 := by omega
      have x4 : ((x : Int) + 64).toNat = x + 64 := by omega
      have kF : ∀ d os, Byo (grow (redrawn wr d) os) gf 0 F := fun d os => HF.out.2.2.1.keep (below_regrown wr d os)
      have kQ : ∀ d os, Rw (grow (redrawn wr d) os) gq kN := fun d os => HQ.out.keep (below_regrown wr d os)
      have g0 : wr.cell? ⟨bs, 0, none⟩ = some (.int .u32 (U s0)) := HF.out.2.2.2.at (i := 0) (by decide)
      have r0 := fun d os => cell_regrown g0 d os
      clear g0
      have g1 : wr.cell? ⟨bs, 1, none⟩ = some (.int .u32 (U s1)) := HF.out.2.2.2.at (i := 1) (by decide)
      have r1 := fun d os => cell_regrown g1 d os
      clear g1
      have g2 : wr.cell? ⟨bs, 2, none⟩ = some (.int .u32 (U s2)) := HF.out.2.2.2.at (i := 2) (by decide)
      have r2 := fun d os => cell_regrown g2 d os
      clear g2
      have g3 : wr.cell? ⟨bs, 3, none⟩ = some (.int .u32 (U s3)) := HF.out.2.2.2.at (i := 3) (by decide)
      have r3 := fun d os => cell_regrown g3 d os
      clear g3
      have g4 : wr.cell? ⟨bs, 4, none⟩ = some (.int .u32 (U s4)) := HF.out.2.2.2.at (i := 4) (by decide)
      have r4 := fun d os => cell_regrown g4 d os
      clear g4
      have g5 : wr.cell? ⟨bs, 5, none⟩ = some (.int .u32 (U s5)) := HF.out.2.2.2.at (i := 5) (by decide)
      have r5 := fun d os => cell_regrown g5 d os
      clear g5
      have g6 : wr.cell? ⟨bs, 6, none⟩ = some (.int .u32 (U s6)) := HF.out.2.2.2.at (i := 6) (by decide)
      have r6 := fun d os => cell_regrown g6 d os
      clear g6
      have g7 : wr.cell? ⟨bs, 7, none⟩ = some (.int .u32 (U s7)) := HF.out.2.2.2.at (i := 7) (by decide)
      have r7 := fun d os => cell_regrown g7 d os
      clear g7
      clear ex e64 hx h8 hn
      go_wp2_with fail
      refine below_tail 8 (by kernel_rfl) (by kernel_rfl) ?_
      simp only [List.take_succ_cons, List.take_zero, List.drop_succ_cons, List.drop_zero]
      repeat
        first
          | go_big_quiet_skip
          | (go_big_quiet_want; go_big_quiet_op; go_big_quiet_on)
          | (go_big_quiet_want
             go_big_quiet_op
             apply Exists.intro
             refine ⟨fun p => ?_, ?_⟩
             · (go_at_call 65; with_reducible exact Calls.regrown_of (RC.out _ (kF p.d p.os) (kQ p.d p.os)))
             go_big_quiet_on)
      refine wpQuiet_nil ?_
      rintro w5 ⟨p, rfl⟩
      have hb := below_regrown wr p.d p.os
      have H5 : Hid (Below w.heap.size w (grow (redrawn wr p.d) p.os) ∧ Hsh (grow (redrawn wr p.d) p.os) w.heap.size (List.replicate 32 0) ∧ Byo (grow (redrawn wr p.d) p.os) gf 0 F ∧ E8 (grow (redrawn wr p.d) p.os) bs [s0, s1, s2, s3, s4, s5, s6, s7] ∧ Rw (grow (redrawn wr p.d) p.os) gq kN) := ⟨HF.out.1.trans (hb.mono HF.out.1.size), HF.out.2.1.keep hb, HF.out.2.2.1.keep hb, HF.out.2.2.2.keep hb, HQ.out.keep hb⟩
      generalize grow (redrawn wr p.d) p.os = w5 at *
      clear hb HF HQ kF kQ RC r0 r1 r2 r3 r4 r5 r6 r7
      have isN : (Tryd.prog.info? 58).map (·.size) = some (wrds N).toArray.size := by rw [List.size_toArray, wrds_len, LN.out]; kernel_rfl
      have ocN := one_wrds N
      have tr : w5.there bs 0 (wrds N).toArray.size := by rw [show (wrds N).toArray.size = 8 by simp [wrds_len, LN.out]]; exact H5.out.2.2.2.1.there
      have F5 : Hid (Below w.heap.size w (w5.setCells bs 0 (wrds N)) ∧ Hsh (w5.setCells bs 0 (wrds N)) w.heap.size (List.replicate 32 0) ∧ Byo (w5.setCells bs 0 (wrds N)) gf 0 F ∧ E8 (w5.setCells bs 0 (wrds N)) bs N ∧ Rw (w5.setCells bs 0 (wrds N)) gq kN) := ⟨below_setCells NB4.out.2.2.2 _ 0 _ H5.out.1, H5.out.2.1.otherCells NB4.out.1 _, fun i hi => by rw [World.cell?_setCells_out _ _ _ _ _ (fun e => absurd e.symm NB4.out.2.1)]; exact H5.out.2.2.1 i hi, H5.out.2.2.2.1.stored LN.out, H5.out.2.2.2.2.otherCells NB4.out.2.2.1 _⟩
      go_wp2_with ((with_reducible refine wpList_store_at (ty := 58) bs 0 (wrds N).toArray tr isN ocN ?_ ?_ ?_); rfl; rfl; refine wpList_world (fun W => Below w.heap.size w W ∧ Hsh W w.heap.size (List.replicate 32 0) ∧ Byo W gf 0 F ∧ E8 W bs N ∧ Rw W gq kN) F5.out ?_; clear F5 tr isN ocN; rintro W' hW')
      have HW' : Hid (Below w.heap.size w W' ∧ Hsh W' w.heap.size (List.replicate 32 0) ∧ Byo W' gf 0 F ∧ E8 W' bs N ∧ Rw W' gq kN) := hW'
      clear hW' H5
      go_roundg (F.length / 64 - (n + 1))
      case measure => have := HK.out; have := HB.out; omega
      case rel => exact ⟨n + 1, rfl, by have := HB.out; omega, by congr 1; have := EX.out; omega, ⟨HW'.out.1, HW'.out.2.1, HW'.out.2.2.1, HW'.out.2.2.2.2⟩, by rw [NX.out]; exact HW'.out.2.2.2.1⟩
end Go.Proofs.YtncpjgpioajbeaaDoor.S

namespace Go.Proofs.YtncpjgpioajbeaaDoor.S
open Go.RowKit Go.Sort

theorem Stock.more {w W W' : World} {pv pv' : Value} {PS : List Part} (h : Stock w W pv PS) {vs : List Value} {n : Nat} (hn : 0 < n) (hown : W'.ownsRow w.heap.size 46 1 pv' (PS.length + n) (PS.map Part.val ++ vs)) (hg : W.grownBy W' pv.ownBlock) :
    Below w.heap.size w W' ∧ ∃ g c, pv' = .slice (some ⟨g, 0, none⟩) (PS.length + n) c ∧ PS.length + n ≤ c ∧ Prts W' g 0 PS := by
  refine ⟨h.below.grown hg h.below.size (fun k hk => (h.own.lt k hk).1), ?_⟩
  rcases hown.2 with ⟨_, hx⟩ | ⟨g, cap, cur, e, _, _, hle, _⟩
  · omega
  · refine ⟨g, cap, e, hle, fun i hi => ?_⟩
    subst e
    have hm : PS.getD i .none ∈ PS := by rw [List.getD, List.getElem?_eq_getElem hi]; exact List.getElem_mem hi
    refine ⟨?_, ?_⟩
    · rw [Nat.zero_add, hown.cellAt i (by omega), List.getElem?_append_left (by simpa using hi)]
      simp [List.getD, hi]
    · obtain ⟨⟨q1, q2, q3⟩, q4, q5⟩ := h.parts _ hm
      rcases q5 with q5 | ⟨a1, a2, a3⟩
      · exact ⟨q1, q2, fun i hi => by rw [q5] at hi; exact absurd hi (Nat.not_lt_zero _)⟩
      · exact ⟨q1, q2, q3.same (hg.block _ a2 (fun e => a3 e.symm))⟩

theorem Gb.same {W W' : World} {g : Nat} {T : List (BitVec 8)} (h : Gb W g T) (e : W'.heap[g]? = W.heap[g]?) : Gb W' g T := ⟨h.1.same e, fun i hi => by rw [World.frozen?_of_block (w := W) (a := ⟨g, i, none⟩) e]; exact h.2 i hi⟩
/-- A part that was lent: where it lies, its room, that it lies apart from the list. -/
def Lnt (B : Nat) (W : World) (own : Option Nat) (q : Part) : Prop := Gb W q.b (q.X ++ List.replicate 70 165) ∧ q.X.length + 70 ≤ q.c ∧ q.a = some ⟨q.b, 0, none⟩ ∧ q.o = 0 ∧ B ≤ q.b ∧ q.b < W.heap.size ∧ own ≠ some q.b
def Rm (w W : World) (pv : Value) (QS : List Part) : Prop := (∀ q ∈ QS, Lnt w.heap.size W pv.ownBlock q) ∧ (QS.map (·.b)).Nodup
theorem Rm.nil (w W : World) (pv : Value) : Rm w W pv [] := ⟨(fun _ h => by cases h), List.nodup_nil⟩
theorem Rm.same {w W W' : World} {pv : Value} {QS : List Part} (h : Rm w W pv QS) (hb : Below W.heap.size W W') : Rm w W' pv QS :=
  ⟨(fun q hq => by obtain ⟨a1, a2, a3, a4, a5, a6, a7⟩ := h.1 q hq; exact ⟨a1.same (hb.block _ a6), a2, a3, a4, a5, Nat.lt_of_lt_of_le a6 hb.size, a7⟩), h.2⟩
theorem Rm.grown {w W W' : World} {pv pv' : Value} {QS : List Part} (h : Rm w W pv QS) (hg : W.grownBy W' pv.ownBlock) (hblk : pv'.ownBlock = pv.ownBlock ∨ pv'.ownBlock = some W.heap.size) : Rm w W' pv' QS :=
  by
  refine ⟨fun q hq => ?_, h.2⟩
  obtain ⟨a1, a2, a3, a4, a5, a6, a7⟩ := h.1 q hq
  refine ⟨a1.same (hg.block _ a6 (fun e => a7 e.symm)), a2, a3, a4, a5, Nat.lt_of_lt_of_le a6 hg.size, ?_⟩
  rcases hblk with e | e
  · rw [e]; exact a7
  · rw [e]
    intro h'
    have := Option.some.inj h'
    omega
theorem Rm.push {w W : World} {pv : Value} {QS : List Part} (h : Rm w W pv QS) {q : Part} (hq : Lnt w.heap.size W pv.ownBlock q) (hn : ∀ p ∈ QS, p.b ≠ q.b) : Rm w W pv (QS ++ [q]) := by
  refine ⟨fun p hp => ?_, ?_⟩
  · rcases List.mem_append.1 hp with hp | hp
    · exact h.1 p hp
    · rw [List.mem_singleton.1 hp]; exact hq
  · rw [List.map_append, List.nodup_append]
    refine ⟨h.2, by simp, fun a ha b hb => ?_⟩
    obtain ⟨p, hp, rfl⟩ := List.mem_map.1 ha
    simp at hb
    rw [hb]; exact hn p hp

end Go.Proofs.YtncpjgpioajbeaaDoor.S

/- A block of another length; '==' of states. -/
namespace Go.Proofs.YtncpjgpioajbeaaDoor.S
open Go.RowKit Go.Sort

end Go.Proofs.YtncpjgpioajbeaaDoor.S

/- ShaBlocks. -/
namespace Go.Proofs.YtncpjgpioajbeaaDoor.S
open Go.RowKit Go.Sort

def flipB (X : List (BitVec 8)) : List (BitVec 8) := X.map fun x => x ^^^ 255
theorem flipB_len (X : List (BitVec 8)) : (flipB X).length = X.length := by simp [flipB]
/-- What the law keeps: the state's copy, the tables, what was lent. -/
def Bk (w W : World) (S : List (BitVec 32)) (g : Nat) (T : List (BitVec 8)) : Prop := Below w.heap.size w W ∧ W.rangeAt w.heap.size 0 (wrds S) ∧ Wds W 1 0 hN ∧ Wds W 2 0 kN ∧ Gb W g T ∧ g < W.heap.size
theorem range_kept {W w1 : World} {b : Nat} {L : List Value} (h : W.rangeAt b 0 L) (hb : Below W.heap.size W w1) : w1.rangeAt b 0 L := fun j v hv => cell_keep hb (h j v hv)
theorem Bk.keep {w W W' : World} {S : List (BitVec 32)} {g : Nat} {T : List (BitVec 8)} (h : Bk w W S g T) (hb : Below W.heap.size W W') : Bk w W' S g T :=
  ⟨h.1.trans (hb.mono h.1.size), range_kept h.2.1 hb, h.2.2.1.keep hb, h.2.2.2.1.keep hb, h.2.2.2.2.1.keep h.2.2.2.2.2 hb, Nat.lt_of_lt_of_le h.2.2.2.2.2 hb.size⟩
theorem Bk.off {w W W' : World} {S : List (BitVec 32)} {g : Nat} {T T' : List (BitVec 8)} (h : Bk w W S g T) (ho : Off g W W') (hG : Gb W' g T') (hf : Wds w 1 0 hN) (hk : Wds w 2 0 kN) (lt : w.heap.size < g) : Bk w W' S g T' := by
  have l1 : 1 < w.heap.size := hf.lt (by decide)
  have l2 : 2 < w.heap.size := hk.lt (by decide)
  exact ⟨h.1.trans (ho.below h.1.size (by omega)), fun j v hv => ho.cell (p := ⟨w.heap.size, 0 + j, none⟩) (by show w.heap.size ≠ g; omega) (h.2.1 j v hv), fun i hi => ho.cell (by show 1 ≠ g; omega) (h.2.2.1 i hi), fun i hi => ho.cell (by show 2 ≠ g; omega) (h.2.2.2.1 i hi), hG, Nat.lt_of_lt_of_le h.2.2.2.2.2 ho.size⟩
end Go.Proofs.YtncpjgpioajbeaaDoor.S

/- The statement's whole: parcels that are as they were. -/
namespace Go.Proofs.YtncpjgpioajbeaaDoor.S
open Go.RowKit Go.Sort

end Go.Proofs.YtncpjgpioajbeaaDoor.S
