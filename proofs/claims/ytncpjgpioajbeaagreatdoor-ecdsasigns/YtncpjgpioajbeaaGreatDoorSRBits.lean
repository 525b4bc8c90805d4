import Derived.Test.YtncpjgpioajbeaaGreatDoorSRLim
/- The document's bits: roots by halving. -/
namespace Go.Proofs.YtncpjgpioajbeaaGreatDoor.S
open Go.RowKit Go.Sort

theorem there_i {W : World} {b : Nat} {cs : Array Value} {t : TypeId} (e : b = W.heap.size) {n : Nat} (hn : n = cs.size) : (W.alloc (.cells cs t)).there b 0 n := by
  subst e hn
  intro j hj
  rw [Nat.zero_add, World.cell?_alloc_mark, World.frozen?_alloc_mark]
  refine ⟨by simp [hj], ?_⟩
  simp
theorem mid_of {lo hi : Int} {k : Nat} (h : hi - lo = 2 ^ (k + 1)) : (lo + hi) / 2 - lo = 2 ^ k ∧ hi - (lo + hi) / 2 = 2 ^ k := by
  rw [Int.pow_succ] at h
  generalize (2 : Int) ^ k = p at *
  omega
theorem sq_le {m : Int} (h0 : 0 ≤ m) (h : m < 281474976710656) : 0 ≤ m * m ∧ m * m < 79228162514264337593543950336 := by
  refine ⟨Int.mul_nonneg h0 h0, ?_⟩
  have : m * m ≤ 281474976710655 * 281474976710655 := Int.mul_le_mul (by omega) (by omega) h0 (by decide)
  omega

set_option maxRecDepth 100000 in
set_option maxHeartbeats 8000000 in
theorem bits_2 {n : Int} (n0 : 0 ≤ n) (n1 : n < 65536) (w : World) :
    Calls Tryz.prog 165 #[.int .i64 n, .int .i64 2] w fun e w' => (∃ r : Int, e = .returned (.int .u32 (r % 4294967296)) ∧ RootOf 2 n r) ∧ Below w.heap.size w w' := by
  have NN : Hid (0 ≤ n ∧ n < 65536) := ⟨n0, n1⟩
  have GW : Hid (Lims [0, 0, 0, 0, n, 0, 0, 0, 0, 0, 0, 0, 0, 0, 0, 0] ∧ vh [0, 0, 0, 0, n, 0, 0, 0, 0, 0, 0, 0, 0, 0, 0, 0] = n * 18446744073709551616) := ⟨fun x hx => by simp only [List.mem_cons, List.not_mem_nil, or_false] at hx; rcases hx with rfl | rfl | rfl | rfl | rfl | rfl | rfl | rfl | rfl | rfl | rfl | rfl | rfl | rfl | rfl | rfl <;> exact ⟨by omega, by omega⟩, by simp only [vh]; omega⟩
  clear n0 n1
  go_enter Tryz.func165, Tryz.ntmps165
  go_wp2_with fail
  refine wp_world (fun W => Below w.heap.size w W ∧ Ih W w.heap.size [0, 0, 0, 0, n, 0, 0, 0, 0, 0, 0, 0, 0, 0, 0, 0]) ⟨by repeat (first | with_reducible exact Below.refl _ _ | with_reducible refine Below.setCell ?_ (Nat.le_refl _) _ | with_reducible refine Below.alloc ?_ (by first | omega | (simp; done) | (simp; omega)) _), (Ih.new [0, 0, 0, 0, n, 0, 0, 0, 0, 0, 0, 0, 0, 0, 0, 0] _ rfl)⟩ ?_
  rintro W ⟨B, hW⟩
  go_loopg [6, 7] 48 (fun k lv hv wr => ∃ lo hi : Int, lv = .int .i64 lo ∧ hv = .int .i64 hi ∧ hi - lo = 2 ^ k ∧ 0 ≤ lo ∧ hi ≤ 281474976710656 ∧ lo * lo ≤ n * 18446744073709551616 ∧ n * 18446744073709551616 < hi * hi ∧ Below w.heap.size w wr ∧ Ih wr w.heap.size [0, 0, 0, 0, n, 0, 0, 0, 0, 0, 0, 0, 0, 0, 0, 0])
  case atStart => exact ⟨0, 281474976710656, rfl, rfl, by decide, by decide, by decide, by have := NN.out; omega, by have := NN.out; omega, B, hW⟩
  case round =>
    clear B hW W
    obtain ⟨lo, hi, rfl, rfl, hd, lo0, hi1, e1, e2, B, hW⟩ := hrel
    have IV : Hid (lo * lo ≤ n * 18446744073709551616 ∧ n * 18446744073709551616 < hi * hi) := ⟨e1, e2⟩
    have HD : Hid (hi - lo = 2 ^ gk) := hd
    clear e1 e2 hd
    cases gk with
    | zero =>
      have h1 : hi = lo + 1 := by have := HD.out; simp at this; omega
      subst h1
      have l1 : lo < 281474976710656 := by omega
      have hg : ¬ (1 < lo + 1 - lo) := by omega
      have FI : Hid (RootOf 2 n lo) := ⟨lo0, by have := IV.out.1; simpa [Int.pow_succ] using this, by have := IV.out.2; simpa [Int.pow_succ] using this⟩
      clear HD IV hi1
      go_wp2
      simp [bodyPost, results, Tryz.results165, go_sem]
      exact ⟨⟨lo, by first | rfl | omega, FI.out⟩, B⟩
    | succ gk =>
      have pk : (1 : Int) ≤ 2 ^ gk := by have h : (0 : Int) < 2 ^ gk := Int.pow_pos (by decide); omega
      have hgt : 1 < hi - lo := by have := HD.out; rw [Int.pow_succ] at this; omega
      have md := mid_of HD.out
      have hl : 0 ≤ hi := by omega
      obtain ⟨m, em⟩ : ∃ m, m = (lo + hi) / 2 := ⟨_, rfl⟩
      rw [← em] at md
      have m0 : 0 ≤ m := by omega
      have m1 : m < 281474976710656 := by omega
      have MD : Hid (m - lo = 2 ^ gk ∧ hi - m = 2 ^ gk) := md
      have MM : Hid (0 ≤ m ∧ m < 281474976710656) := ⟨m0, m1⟩
      have em' : (lo + hi) / 2 = m := em.symm
      clear HD pk md em
      go_wp2_with fail
      refine calls_world (fun W => Below w.heap.size w W ∧ Ih W w.heap.size [0, 0, 0, 0, n, 0, 0, 0, 0, 0, 0, 0, 0, 0, 0, 0]) ⟨B, hW⟩ ?_
      clear B hW
      rintro W ⟨B, hW⟩
      clear wr
      refine (limbs_any m0 (by omega) (by omega) _).mono ?_
      rintro e w3 ⟨⟨L, rfl, q1, q2, q3⟩, hb⟩
      have KL : Hid (L.length = 16 ∧ Lims L ∧ vh L = m) := ⟨q1, q2, q3⟩
      replace B := B.trans (hb.mono B.size)
      replace hW := hW.keep (by simp) hb
      clear hb W q1 q2 q3
      have s1 : (L.map (Value.int .i64)).toArray.size = 16 := by simp [KL.out.1]
      have F1 : ∀ t, Hid (Below w.heap.size w ((w3.alloc (.cells ((List.replicate 16 (0 : Int)).map (Value.int .i64)).toArray t)).setCells w3.heap.size 0 (L.map (Value.int .i64))) ∧ Ih ((w3.alloc (.cells ((List.replicate 16 (0 : Int)).map (Value.int .i64)).toArray t)).setCells w3.heap.size 0 (L.map (Value.int .i64))) w.heap.size [0, 0, 0, 0, n, 0, 0, 0, 0, 0, 0, 0, 0, 0, 0, 0] ∧ Ih ((w3.alloc (.cells ((List.replicate 16 (0 : Int)).map (Value.int .i64)).toArray t)).setCells w3.heap.size 0 (L.map (Value.int .i64))) w3.heap.size L) := fun t => ⟨below_setCells B.size _ 0 _ (B.alloc B.size _), (hW.alloc (by simp) _).otherCells (Nat.ne_of_gt (hW.lt (by simp))) _, (Ih.new (List.replicate 16 0) t rfl).stored (by simp [KL.out.1])⟩
      have nm : w3.heap.size ≠ w.heap.size := Nat.ne_of_gt (hW.lt (by simp))
      have gm : w.heap.size ≤ w3.heap.size := B.size
      clear B hW
      go_wp2_with (first | ((refine wpList_store_mid rfl 167 _ _ rfl w3.heap.size 0 (L.map (Value.int .i64)).toArray rfl rfl (there_i rfl (by rw [s1]; rfl)) (by rw [s1]; kernel_rfl) (one_i64 _) ?_); (refine wpList_world (fun W => Below w.heap.size w W ∧ Ih W w.heap.size [0, 0, 0, 0, n, 0, 0, 0, 0, 0, 0, 0, 0, 0, 0, 0] ∧ Ih W w3.heap.size L) (F1 _).out ?_); (clear F1); (rintro W ⟨B, hW, hM⟩)) | refine wpList_load_mid rfl 167 _ rfl w3.heap.size 0 rfl (L.map (Value.int .i64)) _ hM.range Tryz.underlying167 rfl (by rw [List.length_map, KL.out.1]; kernel_rfl) ?_)
      refine calls_world (fun W => Below w.heap.size w W ∧ Ih W w.heap.size [0, 0, 0, 0, n, 0, 0, 0, 0, 0, 0, 0, 0, 0, 0, 0] ∧ Ih W w3.heap.size L) ⟨B, hW, hM⟩ ?_
      clear B hW hM W
      rintro W ⟨B, hW, hM⟩
      generalize w3.heap.size = bm at *
      clear w3
      have vL : vh (L.take 8) = m := by rw [take8_low KL.out.1 KL.out.2.1 (by rw [KL.out.2.2]; have := MM.out; rw [show (65536 : Int) ^ 8 = 340282366920938463463374607431768211456 by decide]; omega)]; exact KL.out.2.2
      refine (prod_walk KL.out.1 KL.out.1 KL.out.2.1 KL.out.2.1 vL _).mono ?_
      rw [vL]
      clear vL
      rintro e w4 ⟨⟨P, rfl, q1, q2, q3⟩, hb⟩
      have KP : Hid (P.length = 16 ∧ Lims P ∧ vh P = m * m) := ⟨q1, q2, q3⟩
      replace B := B.trans (hb.mono B.size)
      replace hW := hW.keep (by simp) hb; replace hM := hM.keep (by rw [KL.out.1]; decide) hb
      clear hb W q1 q2 q3
      have s2 : (P.map (Value.int .i64)).toArray.size = 16 := by simp [KP.out.1]
      have F2 : ∀ t, Hid (Below w.heap.size w ((w4.alloc (.cells ((List.replicate 16 (0 : Int)).map (Value.int .i64)).toArray t)).setCells w4.heap.size 0 (P.map (Value.int .i64))) ∧ Ih ((w4.alloc (.cells ((List.replicate 16 (0 : Int)).map (Value.int .i64)).toArray t)).setCells w4.heap.size 0 (P.map (Value.int .i64))) w.heap.size [0, 0, 0, 0, n, 0, 0, 0, 0, 0, 0, 0, 0, 0, 0, 0] ∧ Ih ((w4.alloc (.cells ((List.replicate 16 (0 : Int)).map (Value.int .i64)).toArray t)).setCells w4.heap.size 0 (P.map (Value.int .i64))) bm L ∧ Ih ((w4.alloc (.cells ((List.replicate 16 (0 : Int)).map (Value.int .i64)).toArray t)).setCells w4.heap.size 0 (P.map (Value.int .i64))) w4.heap.size P) := fun t => ⟨below_setCells B.size _ 0 _ (B.alloc B.size _), (hW.alloc (by simp) _).otherCells (Nat.ne_of_gt (hW.lt (by simp))) _, (hM.alloc (by rw [KL.out.1]; decide) _).otherCells (Nat.ne_of_gt (hM.lt (by rw [KL.out.1]; decide))) _, (Ih.new (List.replicate 16 0) t rfl).stored (by simp [KP.out.1])⟩
      have NB : Hid (w4.heap.size ≠ w.heap.size ∧ w.heap.size ≤ w4.heap.size) := ⟨Nat.ne_of_gt (hW.lt (by simp)), B.size⟩
      clear B hW hM
      go_wp2_with (first | ((refine wpList_store_mid rfl 167 _ _ rfl w4.heap.size 0 (P.map (Value.int .i64)).toArray rfl rfl (there_i rfl (by rw [s2]; rfl)) (by rw [s2]; kernel_rfl) (one_i64 _) ?_); (refine wpList_world (fun W => Below w.heap.size w W ∧ Ih W w.heap.size [0, 0, 0, 0, n, 0, 0, 0, 0, 0, 0, 0, 0, 0, 0, 0] ∧ Ih W bm L ∧ Ih W w4.heap.size P) (F2 _).out ?_); (clear F2); (rintro W ⟨B, hW, hM, hP⟩); (generalize w4.heap.size = bp at *)) | refine wpList_load_mid rfl 167 _ rfl bp 0 rfl (P.map (Value.int .i64)) _ hP.range Tryz.underlying167 rfl (by rw [List.length_map, KP.out.1]; kernel_rfl) ?_ | refine wpList_load_mid rfl 167 _ rfl w.heap.size 0 rfl ([0, 0, 0, 0, n, 0, 0, 0, 0, 0, 0, 0, 0, 0, 0, 0].map (Value.int .i64)) _ hW.range Tryz.underlying167 rfl (by kernel_rfl) ?_)
      refine calls_world (fun W => Below w.heap.size w W ∧ Ih W w.heap.size [0, 0, 0, 0, n, 0, 0, 0, 0, 0, 0, 0, 0, 0, 0, 0]) ⟨B, hW⟩ ?_
      clear B hW hP
      rintro W' ⟨B, hW⟩
      refine (most_any KP.out.1 rfl KP.out.2.1 GW.out.1 _).mono ?_
      rw [KP.out.2.2, GW.out.2]
      by_cases c : m * m ≤ n * 18446744073709551616
      · rw [decide_eq_true c]
        have CC : Hid (m * m ≤ n * 18446744073709551616) := c
        clear c
        rintro e w6 ⟨rfl, hb⟩
        replace B := B.trans (hb.mono B.size)
        replace hW := hW.keep (by simp) hb
        clear hb
        go_wp2
        go_roundg gk
        case measure => omega
        case rel => exact ⟨m, hi, rfl, rfl, MD.out.2, MM.out.1, hi1, CC.out, IV.out.2, B, hW⟩
      · rw [decide_eq_false c]
        have CC : Hid (¬ m * m ≤ n * 18446744073709551616) := c
        clear c
        rintro e w6 ⟨rfl, hb⟩
        replace B := B.trans (hb.mono B.size)
        replace hW := hW.keep (by simp) hb
        clear hb
        go_wp2
        go_roundg gk
        case measure => omega
        case rel => exact ⟨lo, m, rfl, rfl, MD.out.1, lo0, by have := MM.out; omega, IV.out.1, by have := CC.out; omega, B, hW⟩

set_option maxRecDepth 100000 in
set_option maxHeartbeats 8000000 in
theorem bits_3 {n : Int} (n0 : 0 ≤ n) (n1 : n < 65536) (w : World) :
    Calls Tryz.prog 165 #[.int .i64 n, .int .i64 3] w fun e w' => (∃ r : Int, e = .returned (.int .u32 (r % 4294967296)) ∧ RootOf 3 n r) ∧ Below w.heap.size w w' := by
  have NN : Hid (0 ≤ n ∧ n < 65536) := ⟨n0, n1⟩
  have GW : Hid (Lims [0, 0, 0, 0, 0, 0, n, 0, 0, 0, 0, 0, 0, 0, 0, 0] ∧ vh [0, 0, 0, 0, 0, 0, n, 0, 0, 0, 0, 0, 0, 0, 0, 0] = n * 79228162514264337593543950336) := ⟨fun x hx => by simp only [List.mem_cons, List.not_mem_nil, or_false] at hx; rcases hx with rfl | rfl | rfl | rfl | rfl | rfl | rfl | rfl | rfl | rfl | rfl | rfl | rfl | rfl | rfl | rfl <;> exact ⟨by omega, by omega⟩, by simp only [vh]; omega⟩
  clear n0 n1
  go_enter Tryz.func165, Tryz.ntmps165
  go_wp2_with fail
  refine wp_world (fun W => Below w.heap.size w W ∧ Ih W w.heap.size [0, 0, 0, 0, 0, 0, n, 0, 0, 0, 0, 0, 0, 0, 0, 0]) ⟨by repeat (first | with_reducible exact Below.refl _ _ | with_reducible refine Below.setCell ?_ (Nat.le_refl _) _ | with_reducible refine Below.alloc ?_ (by first | omega | (simp; done) | (simp; omega)) _), (Ih.new [0, 0, 0, 0, 0, 0, n, 0, 0, 0, 0, 0, 0, 0, 0, 0] _ rfl)⟩ ?_
  rintro W ⟨B, hW⟩
  go_loopg [6, 7] 48 (fun k lv hv wr => ∃ lo hi : Int, lv = .int .i64 lo ∧ hv = .int .i64 hi ∧ hi - lo = 2 ^ k ∧ 0 ≤ lo ∧ hi ≤ 281474976710656 ∧ lo * lo * lo ≤ n * 79228162514264337593543950336 ∧ n * 79228162514264337593543950336 < hi * hi * hi ∧ Below w.heap.size w wr ∧ Ih wr w.heap.size [0, 0, 0, 0, 0, 0, n, 0, 0, 0, 0, 0, 0, 0, 0, 0])
  case atStart => exact ⟨0, 281474976710656, rfl, rfl, by decide, by decide, by decide, by have := NN.out; omega, by have := NN.out; omega, B, hW⟩
  case round =>
    clear B hW W
    obtain ⟨lo, hi, rfl, rfl, hd, lo0, hi1, e1, e2, B, hW⟩ := hrel
    have IV : Hid (lo * lo * lo ≤ n * 79228162514264337593543950336 ∧ n * 79228162514264337593543950336 < hi * hi * hi) := ⟨e1, e2⟩
    have HD : Hid (hi - lo = 2 ^ gk) := hd
    clear e1 e2 hd
    cases gk with
    | zero =>
      have h1 : hi = lo + 1 := by have := HD.out; simp at this; omega
      subst h1
      have l1 : lo < 281474976710656 := by omega
      have hg : ¬ (1 < lo + 1 - lo) := by omega
      have FI : Hid (RootOf 3 n lo) := ⟨lo0, by have := IV.out.1; simpa [Int.pow_succ] using this, by have := IV.out.2; simpa [Int.pow_succ] using this⟩
      clear HD IV hi1
      go_wp2
      simp [bodyPost, results, Tryz.results165, go_sem]
      exact ⟨⟨lo, by first | rfl | omega, FI.out⟩, B⟩
    | succ gk =>
      have pk : (1 : Int) ≤ 2 ^ gk := by have h : (0 : Int) < 2 ^ gk := Int.pow_pos (by decide); omega
      have hgt : 1 < hi - lo := by have := HD.out; rw [Int.pow_succ] at this; omega
      have md := mid_of HD.out
      have hl : 0 ≤ hi := by omega
      obtain ⟨m, em⟩ : ∃ m, m = (lo + hi) / 2 := ⟨_, rfl⟩
      rw [← em] at md
      have m0 : 0 ≤ m := by omega
      have m1 : m < 281474976710656 := by omega
      have MD : Hid (m - lo = 2 ^ gk ∧ hi - m = 2 ^ gk) := md
      have MM : Hid (0 ≤ m ∧ m < 281474976710656) := ⟨m0, m1⟩
      have em' : (lo + hi) / 2 = m := em.symm
      clear HD pk md em
      go_wp2_with fail
      refine calls_world (fun W => Below w.heap.size w W ∧ Ih W w.heap.size [0, 0, 0, 0, 0, 0, n, 0, 0, 0, 0, 0, 0, 0, 0, 0]) ⟨B, hW⟩ ?_
      clear B hW
      rintro W ⟨B, hW⟩
      clear wr
      refine (limbs_any m0 (by omega) (by omega) _).mono ?_
      rintro e w3 ⟨⟨L, rfl, q1, q2, q3⟩, hb⟩
      have KL : Hid (L.length = 16 ∧ Lims L ∧ vh L = m) := ⟨q1, q2, q3⟩
      replace B := B.trans (hb.mono B.size)
      replace hW := hW.keep (by simp) hb
      clear hb W q1 q2 q3
      have s1 : (L.map (Value.int .i64)).toArray.size = 16 := by simp [KL.out.1]
      have F1 : ∀ t, Hid (Below w.heap.size w ((w3.alloc (.cells ((List.replicate 16 (0 : Int)).map (Value.int .i64)).toArray t)).setCells w3.heap.size 0 (L.map (Value.int .i64))) ∧ Ih ((w3.alloc (.cells ((List.replicate 16 (0 : Int)).map (Value.int .i64)).toArray t)).setCells w3.heap.size 0 (L.map (Value.int .i64))) w.heap.size [0, 0, 0, 0, 0, 0, n, 0, 0, 0, 0, 0, 0, 0, 0, 0] ∧ Ih ((w3.alloc (.cells ((List.replicate 16 (0 : Int)).map (Value.int .i64)).toArray t)).setCells w3.heap.size 0 (L.map (Value.int .i64))) w3.heap.size L) := fun t => ⟨below_setCells B.size _ 0 _ (B.alloc B.size _), (hW.alloc (by simp) _).otherCells (Nat.ne_of_gt (hW.lt (by simp))) _, (Ih.new (List.replicate 16 0) t rfl).stored (by simp [KL.out.1])⟩
      have nm : w3.heap.size ≠ w.heap.size := Nat.ne_of_gt (hW.lt (by simp))
      have gm : w.heap.size ≤ w3.heap.size := B.size
      clear B hW
      go_wp2_with (first | ((refine wpList_store_mid rfl 167 _ _ rfl w3.heap.size 0 (L.map (Value.int .i64)).toArray rfl rfl (there_i rfl (by rw [s1]; rfl)) (by rw [s1]; kernel_rfl) (one_i64 _) ?_); (refine wpList_world (fun W => Below w.heap.size w W ∧ Ih W w.heap.size [0, 0, 0, 0, 0, 0, n, 0, 0, 0, 0, 0, 0, 0, 0, 0] ∧ Ih W w3.heap.size L) (F1 _).out ?_); (clear F1); (rintro W ⟨B, hW, hM⟩)) | refine wpList_load_mid rfl 167 _ rfl w3.heap.size 0 rfl (L.map (Value.int .i64)) _ hM.range Tryz.underlying167 rfl (by rw [List.length_map, KL.out.1]; kernel_rfl) ?_)
      refine calls_world (fun W => Below w.heap.size w W ∧ Ih W w.heap.size [0, 0, 0, 0, 0, 0, n, 0, 0, 0, 0, 0, 0, 0, 0, 0] ∧ Ih W w3.heap.size L) ⟨B, hW, hM⟩ ?_
      clear B hW hM W
      rintro W ⟨B, hW, hM⟩
      generalize w3.heap.size = bm at *
      clear w3
      have vL : vh (L.take 8) = m := by rw [take8_low KL.out.1 KL.out.2.1 (by rw [KL.out.2.2]; have := MM.out; rw [show (65536 : Int) ^ 8 = 340282366920938463463374607431768211456 by decide]; omega)]; exact KL.out.2.2
      refine (prod_walk KL.out.1 KL.out.1 KL.out.2.1 KL.out.2.1 vL _).mono ?_
      rw [vL]
      clear vL
      rintro e w4 ⟨⟨P, rfl, q1, q2, q3⟩, hb⟩
      have KP : Hid (P.length = 16 ∧ Lims P ∧ vh P = m * m) := ⟨q1, q2, q3⟩
      replace B := B.trans (hb.mono B.size)
      replace hW := hW.keep (by simp) hb; replace hM := hM.keep (by rw [KL.out.1]; decide) hb
      clear hb W q1 q2 q3
      have s2 : (P.map (Value.int .i64)).toArray.size = 16 := by simp [KP.out.1]
      have F2 : ∀ t, Hid (Below w.heap.size w ((w4.alloc (.cells ((List.replicate 16 (0 : Int)).map (Value.int .i64)).toArray t)).setCells w4.heap.size 0 (P.map (Value.int .i64))) ∧ Ih ((w4.alloc (.cells ((List.replicate 16 (0 : Int)).map (Value.int .i64)).toArray t)).setCells w4.heap.size 0 (P.map (Value.int .i64))) w.heap.size [0, 0, 0, 0, 0, 0, n, 0, 0, 0, 0, 0, 0, 0, 0, 0] ∧ Ih ((w4.alloc (.cells ((List.replicate 16 (0 : Int)).map (Value.int .i64)).toArray t)).setCells w4.heap.size 0 (P.map (Value.int .i64))) bm L ∧ Ih ((w4.alloc (.cells ((List.replicate 16 (0 : Int)).map (Value.int .i64)).toArray t)).setCells w4.heap.size 0 (P.map (Value.int .i64))) w4.heap.size P) := fun t => ⟨below_setCells B.size _ 0 _ (B.alloc B.size _), (hW.alloc (by simp) _).otherCells (Nat.ne_of_gt (hW.lt (by simp))) _, (hM.alloc (by rw [KL.out.1]; decide) _).otherCells (Nat.ne_of_gt (hM.lt (by rw [KL.out.1]; decide))) _, (Ih.new (List.replicate 16 0) t rfl).stored (by simp [KP.out.1])⟩
      have NB : Hid (w4.heap.size ≠ w.heap.size ∧ w.heap.size ≤ w4.heap.size) := ⟨Nat.ne_of_gt (hW.lt (by simp)), B.size⟩
      clear B hW hM
      go_wp2_with (first | ((refine wpList_store_mid rfl 167 _ _ rfl w4.heap.size 0 (P.map (Value.int .i64)).toArray rfl rfl (there_i rfl (by rw [s2]; rfl)) (by rw [s2]; kernel_rfl) (one_i64 _) ?_); (refine wpList_world (fun W => Below w.heap.size w W ∧ Ih W w.heap.size [0, 0, 0, 0, 0, 0, n, 0, 0, 0, 0, 0, 0, 0, 0, 0] ∧ Ih W bm L ∧ Ih W w4.heap.size P) (F2 _).out ?_); (clear F2); (rintro W ⟨B, hW, hM, hP⟩); (generalize w4.heap.size = bp at *)) | refine wpList_load_mid rfl 167 _ rfl bp 0 rfl (P.map (Value.int .i64)) _ hP.range Tryz.underlying167 rfl (by rw [List.length_map, KP.out.1]; kernel_rfl) ?_ | refine wpList_load_mid rfl 167 _ rfl bm 0 rfl (L.map (Value.int .i64)) _ hM.range Tryz.underlying167 rfl (by rw [List.length_map, KL.out.1]; kernel_rfl) ?_)
      refine calls_world (fun W => Below w.heap.size w W ∧ Ih W w.heap.size [0, 0, 0, 0, 0, 0, n, 0, 0, 0, 0, 0, 0, 0, 0, 0] ∧ Ih W bm L ∧ Ih W bp P) ⟨B, hW, hM, hP⟩ ?_
      clear B hW hM hP W
      rintro W ⟨B, hW, hM, hP⟩
      have vL : vh (L.take 8) = m := by rw [take8_low KL.out.1 KL.out.2.1 (by rw [KL.out.2.2]; have := MM.out; rw [show (65536 : Int) ^ 8 = 340282366920938463463374607431768211456 by decide]; omega)]; exact KL.out.2.2
      have vP : vh (P.take 8) = m * m := by rw [take8_low KP.out.1 KP.out.2.1 (by rw [KP.out.2.2]; have := sq_le MM.out.1 MM.out.2; rw [show (65536 : Int) ^ 8 = 340282366920938463463374607431768211456 by decide]; omega)]; exact KP.out.2.2
      refine (prod_walk KP.out.1 KL.out.1 KP.out.2.1 KL.out.2.1 vL _).mono ?_
      rw [vP]
      clear vL vP
      rintro e w5 ⟨⟨P3, rfl, q1, q2, q3⟩, hb⟩
      have KP3 : Hid (P3.length = 16 ∧ Lims P3 ∧ vh P3 = m * m * m) := ⟨q1, q2, q3⟩
      replace B := B.trans (hb.mono B.size)
      replace hW := hW.keep (by simp) hb; replace hP := hP.keep (by rw [KP.out.1]; decide) hb
      clear hb W q1 q2 q3 hM
      have s3 : (P3.map (Value.int .i64)).toArray.size = 16 := by simp [KP3.out.1]
      have np : bp ≠ w.heap.size := NB.out.1
      have F3 : Hid (Below w.heap.size w (w5.setCells bp 0 (P3.map (Value.int .i64))) ∧ Ih (w5.setCells bp 0 (P3.map (Value.int .i64))) w.heap.size [0, 0, 0, 0, 0, 0, n, 0, 0, 0, 0, 0, 0, 0, 0, 0] ∧ Ih (w5.setCells bp 0 (P3.map (Value.int .i64))) bp P3) := ⟨below_setCells NB.out.2 _ 0 _ B, hW.otherCells np _, hP.stored (by rw [KP3.out.1, KP.out.1])⟩
      have tr := hP.there (k := (P3.map (Value.int .i64)).toArray.size) (by rw [s3, KP.out.1])
      clear B hW hP
      go_wp2_with (first | ((refine wpList_store_mid rfl 167 _ _ rfl bp 0 (P3.map (Value.int .i64)).toArray rfl rfl tr (by rw [s3]; kernel_rfl) (one_i64 _) ?_); (refine wpList_world (fun W => Below w.heap.size w W ∧ Ih W w.heap.size [0, 0, 0, 0, 0, 0, n, 0, 0, 0, 0, 0, 0, 0, 0, 0] ∧ Ih W bp P3) F3.out ?_); (clear F3 tr); (rintro W ⟨B, hW, hP⟩)) | refine wpList_load_mid rfl 167 _ rfl bp 0 rfl (P3.map (Value.int .i64)) _ hP.range Tryz.underlying167 rfl (by rw [List.length_map, KP3.out.1]; kernel_rfl) ?_ | refine wpList_load_mid rfl 167 _ rfl w.heap.size 0 rfl ([0, 0, 0, 0, 0, 0, n, 0, 0, 0, 0, 0, 0, 0, 0, 0].map (Value.int .i64)) _ hW.range Tryz.underlying167 rfl (by kernel_rfl) ?_)
      refine calls_world (fun W => Below w.heap.size w W ∧ Ih W w.heap.size [0, 0, 0, 0, 0, 0, n, 0, 0, 0, 0, 0, 0, 0, 0, 0]) ⟨B, hW⟩ ?_
      clear B hW hP
      rintro W' ⟨B, hW⟩
      refine (most_any KP3.out.1 rfl KP3.out.2.1 GW.out.1 _).mono ?_
      rw [KP3.out.2.2, GW.out.2]
      by_cases c : m * m * m ≤ n * 79228162514264337593543950336
      · rw [decide_eq_true c]
        have CC : Hid (m * m * m ≤ n * 79228162514264337593543950336) := c
        clear c
        rintro e w6 ⟨rfl, hb⟩
        replace B := B.trans (hb.mono B.size)
        replace hW := hW.keep (by simp) hb
        clear hb
        go_wp2
        go_roundg gk
        case measure => omega
        case rel => exact ⟨m, hi, rfl, rfl, MD.out.2, MM.out.1, hi1, CC.out, IV.out.2, B, hW⟩
      · rw [decide_eq_false c]
        have CC : Hid (¬ m * m * m ≤ n * 79228162514264337593543950336) := c
        clear c
        rintro e w6 ⟨rfl, hb⟩
        replace B := B.trans (hb.mono B.size)
        replace hW := hW.keep (by simp) hb
        clear hb
        go_wp2
        go_roundg gk
        case measure => omega
        case rel => exact ⟨lo, m, rfl, rfl, MD.out.1, lo0, by have := MM.out; omega, IV.out.1, by have := CC.out; omega, B, hW⟩
end Go.Proofs.YtncpjgpioajbeaaGreatDoor.S
