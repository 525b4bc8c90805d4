import Derived.Test.YtidchaaahgnabaaDoorHxN
/- Layer 8: ParseAddress and ParseHash. -/
namespace Go.Proofs.YtidchaaahgnabaaDoor
open Go.RowKit Go.Sort
theorem Cz.range {W : World} {g : Nat} {X : List Int} (h : Cz W g X) : W.rangeAt g 0 (X.map (Value.int .u8)) := fun j v hv => by
  rw [List.getElem?_map] at hv
  obtain ⟨x, hx, rfl⟩ := Option.map_eq_some_iff.1 hv
  have hj : j < X.length := (List.getElem?_eq_some_iff.1 hx).1
  rw [Nat.zero_add, (h j hj).1, List.getD, hx]; rfl
theorem Cz.there {W : World} {g : Nat} {X : List Int} (h : Cz W g X) : W.there g 0 X.length := fun j hj => by
  rw [Nat.zero_add]; exact ⟨by rw [(h j hj).1]; rfl, (h j hj).2⟩
theorem Cz.new {W : World} {M : Array Value} {t : TypeId} {X : List Int} (e : M = (X.map (Value.int .u8)).toArray) : Cz (W.alloc (.cells M t)) W.heap.size X := fun i hi => by
  have c : M[i]? = some (.int .u8 (X.getD i 0)) := by
    rw [e, List.getElem?_toArray, List.getElem?_map, List.getElem?_eq_getElem hi, List.getD, List.getElem?_eq_getElem hi]; rfl
  refine ⟨?_, ?_⟩
  · rw [World.cell?_alloc_mark, c]
  · rw [World.frozen?_alloc_mark]
    simp
theorem Cz.lt {W : World} {g : Nat} {X : List Int} (h : Cz W g X) (h0 : 0 < X.length) : g < W.heap.size := World.block_lt_of_cell? W _ (h 0 h0).1
theorem Cz.grown {W W' : World} {g : Nat} {X : List Int} {row : Option Nat} (h : Cz W g X) (hg : W.grownBy W' row) (hn : row ≠ some g) : Cz W' g X := fun i hi => by
  have e : W'.heap[g]? = W.heap[g]? := hg.block g (World.block_lt_of_cell? W _ (h i hi).1) (fun e => hn e.symm)
  exact ⟨by rw [← (h i hi).1]; simp only [World.cell?, e], by rw [← (h i hi).2]; simp only [World.frozen?, e]⟩
/-- Two arrays in a row, made anew. -/
theorem new2 {w : World} {M : Array Value} {t t' : TypeId} {X : List Int} (e : M = (X.map (Value.int .u8)).toArray) :
    Below w.heap.size w ((w.alloc (.cells M t)).alloc (.cells M t')) ∧ Cz ((w.alloc (.cells M t)).alloc (.cells M t')) w.heap.size X ∧ Cz ((w.alloc (.cells M t)).alloc (.cells M t')) (w.heap.size + 1) X := by
  have s1 : (w.alloc (.cells M t)).heap.size = w.heap.size + 1 := by simp
  refine ⟨((Below.refl _ _).alloc (Nat.le_refl _) _).alloc (by rw [s1]; omega) _, (Cz.new e).keep ((Below.refl _ _).alloc (Nat.le_refl _) _), ?_⟩
  have := Cz.new (W := w.alloc (.cells M t)) (t := t') e
  rw [s1] at this
  exact this
theorem laidH {w W : World} {n b : Nat} {D : List Value} (B : Below n w W) (hb : n ≤ b) (ht : W.there b 0 D.length) : Below n w (W.setCells b 0 D) ∧ (W.setCells b 0 D).rangeAt b 0 D := ⟨below_cellsH B hb D 0, World.rangeAt_setCells_same _ _ _ _ ht⟩
theorem one_u8 (X : List Int) : (X.map (Value.int .u8)).toArray.all (·.oneCell') = true := all_oneCell_toArray (fun v hv => by obtain ⟨x, _, rfl⟩ := List.mem_map.1 hv; rfl)
theorem text_inj {a b : ByteArray} (h : a.toList = b.toList) : a = b := by
  rw [ByteArray.toList_eq, ByteArray.toList_eq] at h
  cases a; cases b
  congr
  exact Array.toList_inj.1 h
theorem pk_low {t : ByteArray} (h : dgs t) {n : Nat} (hn : 2 * n ≤ t.size) : ∀ i, 0 ≤ (pk t n).getD i 0 ∧ (pk t n).getD i 0 < 256 := fun i => by
  by_cases hi : i < n
  · have e : (pk t n).getD i 0 = 16 * dv (bt t (2 * i)) + dv (bt t (2 * i + 1)) := by
      unfold pk
      rw [List.getD, List.getElem?_map, List.getElem?_range hi]; rfl
    have a := h (2 * i) (by omega)
    have b := h (2 * i + 1) (by omega)
    have c := dv_low (bt t (2 * i))
    have d := dv_low (bt t (2 * i + 1))
    rw [e]; omega
  · have e : (pk t n).getD i 0 = 0 := by rw [List.getD, List.getElem?_eq_none (by rw [pk_len]; omega)]; rfl
    rw [e]; omega
set_option maxRecDepth 100000 in
set_option maxHeartbeats 4000000 in
theorem ph_no {s : ByteArray} (hs : s.size < 140737488355328) (h : ¬ (okP s ∧ (tl s).size = 64)) (w : World) :
    Calls Tryd.prog 25 #[.string s] w fun e w' => e = .returned (.tuple #[.agg ((List.replicate 32 (0 : Int)).map (Value.int .u8)).toArray, .int .i64 80]) ∧ Below w.heap.size w w' := by
  by_cases hp : okP s
  · have n40 : (((tl s).size : Int) != 64) = true := by simp; exact fun x => h ⟨hp, by omega⟩
    have ht := tailOf_yes hs hp
    clear h hs hp
    go_enter Tryd.func25, Tryd.ntmps25
    go_wp2_with fail
    refine calls_world (fun W => Below w.heap.size w W ∧ Cz W w.heap.size (List.replicate 32 (0 : Int)) ∧ Cz W (w.heap.size + 1) (List.replicate 32 (0 : Int))) (new2 rfl) ?_
    rintro W ⟨B, hR, hC⟩
    with_reducible refine (ht W).mono ?_
    rintro e1 w1 ⟨rfl, hw1⟩
    rw [hw1]
    clear hw1 w1
    have tr : W.there w.heap.size 0 ((List.replicate 32 (0 : Int)).map (Value.int .u8)).toArray.size := by simpa using hR.there
    clear hR hC
    obtain ⟨Dz, eD⟩ : ∃ D, Hid (D = (List.replicate 32 (0 : Int)).map (Value.int .u8)) := ⟨_, rfl⟩
    go_wp2_with ((refine wpList_store_mid rfl 36 _ _ rfl w.heap.size 0 ((List.replicate 32 (0 : Int)).map (Value.int .u8)).toArray rfl rfl tr (by kernel_rfl) (one_u8 _) ?_); (refine wpListH (fun W' => Below w.heap.size w W' ∧ W'.rangeAt w.heap.size 0 Dz) (by rw [eD.out]; exact laidH B (Nat.le_refl _) (by simpa using tr)) ?_); rintro W' ⟨B', hD⟩)
    have ld := run_loadVar_mid (P := Tryd.prog) W' w.heap.size 0 36 Dz _ hD Tryd.underlying36 rfl (by rw [eD.out]; kernel_rfl)
    refine bodyPost_ret (v := .tuple #[.agg Dz.toArray, .int .i64 80]) ?_ rfl ⟨by rw [eD.out], B'⟩
    simp [results, Tryd.results25, asAddr, ld]
  · have ht := tailOf_no hs hp
    clear h hs hp
    go_enter Tryd.func25, Tryd.ntmps25
    go_wp2_with fail
    refine calls_world (fun W => Below w.heap.size w W ∧ Cz W w.heap.size (List.replicate 32 (0 : Int)) ∧ Cz W (w.heap.size + 1) (List.replicate 32 (0 : Int))) (new2 rfl) ?_
    rintro W ⟨B, hR, hC⟩
    with_reducible refine (ht W).mono ?_
    rintro e1 w1 ⟨rfl, hw1⟩
    rw [hw1]
    clear hw1 w1
    have tr : W.there w.heap.size 0 ((List.replicate 32 (0 : Int)).map (Value.int .u8)).toArray.size := by simpa using hR.there
    clear hR hC
    obtain ⟨Dz, eD⟩ : ∃ D, Hid (D = (List.replicate 32 (0 : Int)).map (Value.int .u8)) := ⟨_, rfl⟩
    go_wp2_with ((refine wpList_store_mid rfl 36 _ _ rfl w.heap.size 0 ((List.replicate 32 (0 : Int)).map (Value.int .u8)).toArray rfl rfl tr (by kernel_rfl) (one_u8 _) ?_); (refine wpListH (fun W' => Below w.heap.size w W' ∧ W'.rangeAt w.heap.size 0 Dz) (by rw [eD.out]; exact laidH B (Nat.le_refl _) (by simpa using tr)) ?_); rintro W' ⟨B', hD⟩)
    have ld := run_loadVar_mid (P := Tryd.prog) W' w.heap.size 0 36 Dz _ hD Tryd.underlying36 rfl (by rw [eD.out]; kernel_rfl)
    refine bodyPost_ret (v := .tuple #[.agg Dz.toArray, .int .i64 80]) ?_ rfl ⟨by rw [eD.out], B'⟩
    simp [results, Tryd.results25, asAddr, ld]
set_option maxRecDepth 100000 in
set_option maxHeartbeats 4000000 in
theorem ph_ok {s : ByteArray} (hs : s.size < 140737488355328) (hp : okP s) (h64 : (tl s).size = 64) (w : World) :
    Calls Tryd.prog 25 #[.string s] w fun e w' => e = .returned (.tuple #[.agg ((pk (tl s) 32).map (Value.int .u8)).toArray, .int .i64 0]) ∧ Below w.heap.size w w' := by
  have ht := tailOf_yes hs hp
  have RD : Hid (∀ W g, Cz W g (List.replicate 32 (0 : Int)) → Calls Tryd.prog 36 #[.slice (some ⟨g, 0, none⟩) 32 32, .string (tl s)] W fun e w' => e = .returned (.tuple #[]) ∧ Cz w' g (pk (tl s) 32) ∧ W.grownBy w' (some g)) := fun W g hz => readC_any (by simp) (by omega) (by omega) hp.2.2 W hz
  have lP := pk_len (tl s) 32
  have zc : ((tl s).size : Int) = 64 := by omega
  have n40 : (((tl s).size : Int) != 64) = false := by rw [zc]; rfl
  obtain ⟨N, eN⟩ : ∃ N, Hid (N = (pk (tl s) 32).map (Value.int .u8)) := ⟨_, rfl⟩
  rw [← eN.out]
  clear hs hp h64
  go_enter Tryd.func25, Tryd.ntmps25
  go_wp2_with fail
  refine calls_world (fun W => Below w.heap.size w W ∧ Cz W w.heap.size (List.replicate 32 (0 : Int)) ∧ Cz W (w.heap.size + 1) (List.replicate 32 (0 : Int))) (new2 rfl) ?_
  rintro W ⟨B, hR, hC⟩
  with_reducible refine (ht W).mono ?_
  rintro e1 w1 ⟨rfl, hw1⟩
  rw [hw1]
  clear hw1 w1
  have lt1 : w.heap.size + 1 < W.heap.size := hC.lt (by decide)
  have o1 : w.heap.size ≤ w.heap.size + 1 := by omega
  have nb : w.heap.size + 1 ≠ w.heap.size := by omega
  generalize w.heap.size + 1 = ba at *
  go_wp2_with fail
  with_reducible refine (RD.out W ba hC).mono ?_
  rintro e2 w2 ⟨rfl, hP, hg⟩
  replace B := B.grown hg (by omega) (fun k hk => by cases hk; exact o1)
  replace hR := hR.grown hg (fun e => nb (Option.some.inj e))
  clear hC hg lt1 W RD
  have tr : w2.there w.heap.size 0 N.toArray.size := by rw [eN.out]; simpa [lP] using hR.there
  have rg : w2.rangeAt ba 0 N := by rw [eN.out]; exact hP.range
  have lN : (Tryd.prog.info? 36).map (·.size) = some N.length := by rw [show N.length = 32 by rw [eN.out, List.length_map, lP]]; kernel_rfl
  have oN : N.toArray.all (·.oneCell') = true := by rw [eN.out]; exact one_u8 _
  have lN2 : (Tryd.prog.info? 36).map (·.size) = some N.toArray.size := by simpa using lN
  clear hR hP
  go_wp2_with first | (refine wpList_load_mid rfl 36 _ rfl ba 0 rfl N _ rg Tryd.underlying36 rfl lN ?_) | ((refine wpList_store_mid rfl 36 _ _ rfl w.heap.size 0 N.toArray rfl rfl tr lN2 oN ?_); (refine wpListH (fun W' => Below w.heap.size w W' ∧ W'.rangeAt w.heap.size 0 N) (laidH B (Nat.le_refl _) (by simpa using tr)) ?_); rintro W' ⟨B', hD⟩)
  have ld := run_loadVar_mid (P := Tryd.prog) W' w.heap.size 0 36 N _ hD Tryd.underlying36 rfl lN
  refine bodyPost_ret (v := .tuple #[.agg N.toArray, .int .i64 0]) ?_ rfl ⟨rfl, B'⟩
  simp [results, Tryd.results25, asAddr, ld]
set_option maxRecDepth 100000 in
set_option maxHeartbeats 4000000 in
theorem pa_no {s : ByteArray} (hs : s.size < 140737488355328) (h : ¬ (okP s ∧ (tl s).size = 40)) (w : World) :
    Calls Tryd.prog 9 #[.string s] w fun e w' => e = .returned (.tuple #[.agg ((List.replicate 20 (0 : Int)).map (Value.int .u8)).toArray, .int .i64 80]) ∧ Below w.heap.size w w' := by
  by_cases hp : okP s
  · have n40 : (((tl s).size : Int) != 40) = true := by simp; exact fun x => h ⟨hp, by omega⟩
    have ht := tailOf_yes hs hp
    clear h hs hp
    go_enter Tryd.func9, Tryd.ntmps9
    go_wp2_with fail
    refine calls_world (fun W => Below w.heap.size w W ∧ Cz W w.heap.size (List.replicate 20 (0 : Int)) ∧ Cz W (w.heap.size + 1) (List.replicate 20 (0 : Int))) (new2 rfl) ?_
    rintro W ⟨B, hR, hC⟩
    with_reducible refine (ht W).mono ?_
    rintro e1 w1 ⟨rfl, hw1⟩
    rw [hw1]
    clear hw1 w1
    have tr : W.there w.heap.size 0 ((List.replicate 20 (0 : Int)).map (Value.int .u8)).toArray.size := by simpa using hR.there
    clear hR hC
    obtain ⟨Dz, eD⟩ : ∃ D, Hid (D = (List.replicate 20 (0 : Int)).map (Value.int .u8)) := ⟨_, rfl⟩
    go_wp2_with ((refine wpList_store_mid rfl 23 _ _ rfl w.heap.size 0 ((List.replicate 20 (0 : Int)).map (Value.int .u8)).toArray rfl rfl tr (by kernel_rfl) (one_u8 _) ?_); (refine wpListH (fun W' => Below w.heap.size w W' ∧ W'.rangeAt w.heap.size 0 Dz) (by rw [eD.out]; exact laidH B (Nat.le_refl _) (by simpa using tr)) ?_); rintro W' ⟨B', hD⟩)
    have ld := run_loadVar_mid (P := Tryd.prog) W' w.heap.size 0 23 Dz _ hD Tryd.underlying23 rfl (by rw [eD.out]; kernel_rfl)
    refine bodyPost_ret (v := .tuple #[.agg Dz.toArray, .int .i64 80]) ?_ rfl ⟨by rw [eD.out], B'⟩
    simp [results, Tryd.results9, asAddr, ld]
  · have ht := tailOf_no hs hp
    clear h hs hp
    go_enter Tryd.func9, Tryd.ntmps9
    go_wp2_with fail
    refine calls_world (fun W => Below w.heap.size w W ∧ Cz W w.heap.size (List.replicate 20 (0 : Int)) ∧ Cz W (w.heap.size + 1) (List.replicate 20 (0 : Int))) (new2 rfl) ?_
    rintro W ⟨B, hR, hC⟩
    with_reducible refine (ht W).mono ?_
    rintro e1 w1 ⟨rfl, hw1⟩
    rw [hw1]
    clear hw1 w1
    have tr : W.there w.heap.size 0 ((List.replicate 20 (0 : Int)).map (Value.int .u8)).toArray.size := by simpa using hR.there
    clear hR hC
    obtain ⟨Dz, eD⟩ : ∃ D, Hid (D = (List.replicate 20 (0 : Int)).map (Value.int .u8)) := ⟨_, rfl⟩
    go_wp2_with ((refine wpList_store_mid rfl 23 _ _ rfl w.heap.size 0 ((List.replicate 20 (0 : Int)).map (Value.int .u8)).toArray rfl rfl tr (by kernel_rfl) (one_u8 _) ?_); (refine wpListH (fun W' => Below w.heap.size w W' ∧ W'.rangeAt w.heap.size 0 Dz) (by rw [eD.out]; exact laidH B (Nat.le_refl _) (by simpa using tr)) ?_); rintro W' ⟨B', hD⟩)
    have ld := run_loadVar_mid (P := Tryd.prog) W' w.heap.size 0 23 Dz _ hD Tryd.underlying23 rfl (by rw [eD.out]; kernel_rfl)
    refine bodyPost_ret (v := .tuple #[.agg Dz.toArray, .int .i64 80]) ?_ rfl ⟨by rw [eD.out], B'⟩
    simp [results, Tryd.results9, asAddr, ld]
set_option maxRecDepth 100000 in
set_option maxHeartbeats 4000000 in
theorem pa_plain {s : ByteArray} (hs : s.size < 140737488355328) (hp : okP s) (h40 : (tl s).size = 40) (mx : (smA (tl s) 40 && caA (tl s) 40) = false) (w : World) :
    Calls Tryd.prog 9 #[.string s] w fun e w' => e = .returned (.tuple #[.agg ((pk (tl s) 20).map (Value.int .u8)).toArray, .int .i64 0]) ∧ Below w.heap.size w w' := by
  have ht := tailOf_yes hs hp
  have RD : Hid (∀ W g, Cz W g (List.replicate 20 (0 : Int)) → Calls Tryd.prog 36 #[.slice (some ⟨g, 0, none⟩) 20 20, .string (tl s)] W fun e w' => e = .returned (.tuple #[]) ∧ Cz w' g (pk (tl s) 20) ∧ W.grownBy w' (some g)) := fun W g hz => readC_any (by simp) (by omega) (by omega) hp.2.2 W hz
  have lP := pk_len (tl s) 20
  have zc : ((tl s).size : Int) = 40 := by omega
  have n40 : (((tl s).size : Int) != 40) = false := by rw [zc]; rfl
  have MX : Hid (∀ W, Calls Tryd.prog 37 #[.string (tl s)] W fun e w' => e = .returned (.bool false) ∧ w' = W) := fun W => by
    have := hmix_any (t := tl s) (by omega) W
    rw [h40, mx] at this
    exact this
  obtain ⟨N, eN⟩ : ∃ N, Hid (N = (pk (tl s) 20).map (Value.int .u8)) := ⟨_, rfl⟩
  rw [← eN.out]
  clear hs hp h40 mx
  go_enter Tryd.func9, Tryd.ntmps9
  go_wp2_with fail
  refine calls_world (fun W => Below w.heap.size w W ∧ Cz W w.heap.size (List.replicate 20 (0 : Int)) ∧ Cz W (w.heap.size + 1) (List.replicate 20 (0 : Int))) (new2 rfl) ?_
  rintro W ⟨B, hR, hC⟩
  with_reducible refine (ht W).mono ?_
  rintro e1 w1 ⟨rfl, hw1⟩
  rw [hw1]
  clear hw1 w1
  have lt1 : w.heap.size + 1 < W.heap.size := hC.lt (by decide)
  have o1 : w.heap.size ≤ w.heap.size + 1 := by omega
  have nb : w.heap.size + 1 ≠ w.heap.size := by omega
  generalize w.heap.size + 1 = ba at *
  go_wp2_with fail
  with_reducible refine (RD.out W ba hC).mono ?_
  rintro e2 w2 ⟨rfl, hP, hg⟩
  replace B := B.grown hg (by omega) (fun k hk => by cases hk; exact o1)
  replace hR := hR.grown hg (fun e => nb (Option.some.inj e))
  clear hC hg lt1 W RD
  have tr : w2.there w.heap.size 0 N.toArray.size := by rw [eN.out]; simpa [lP] using hR.there
  have rg : w2.rangeAt ba 0 N := by rw [eN.out]; exact hP.range
  have lN : (Tryd.prog.info? 23).map (·.size) = some N.length := by rw [show N.length = 20 by rw [eN.out, List.length_map, lP]]; kernel_rfl
  have oN : N.toArray.all (·.oneCell') = true := by rw [eN.out]; exact one_u8 _
  have lN2 : (Tryd.prog.info? 23).map (·.size) = some N.toArray.size := by simpa using lN
  clear hR hP
  go_wp2_with first | ((with_reducible refine (MX.out _).mono ?_); rintro e3 w3 ⟨rfl, hw3⟩; (rw [hw3]); (clear hw3 w3)) | (refine wpList_load_mid rfl 23 _ rfl ba 0 rfl N _ rg Tryd.underlying23 rfl lN ?_) | ((refine wpList_store_mid rfl 23 _ _ rfl w.heap.size 0 N.toArray rfl rfl tr lN2 oN ?_); (refine wpListH (fun W' => Below w.heap.size w W' ∧ W'.rangeAt w.heap.size 0 N) (laidH B (Nat.le_refl _) (by simpa using tr)) ?_); rintro W' ⟨B', hD⟩)
  have ld := run_loadVar_mid (P := Tryd.prog) W' w.heap.size 0 23 N _ hD Tryd.underlying23 rfl lN
  refine bodyPost_ret (v := .tuple #[.agg N.toArray, .int .i64 0]) ?_ rfl ⟨rfl, B'⟩
  simp [results, Tryd.results9, asAddr, ld]
set_option maxRecDepth 100000 in
set_option maxHeartbeats 4000000 in
theorem pa_right {s : ByteArray} (hs : s.size < 140737488355328) (hp : okP s) (h40 : (tl s).size = 40) (mx : (smA (tl s) 40 && caA (tl s) 40) = true) (es : s = ⟨(ckS (pk (tl s) 20)).toArray⟩) (w : World) (tb1 : Tab w 4 turnsN) (tb2 : Lns w 2 marksN) :
    Calls Tryd.prog 9 #[.string s] w fun e w' => e = .returned (.tuple #[.agg ((pk (tl s) 20).map (Value.int .u8)).toArray, .int .i64 0]) ∧ Below w.heap.size w w' := by
  have ht := tailOf_yes hs hp
  have RD : Hid (∀ W g, Cz W g (List.replicate 20 (0 : Int)) → Calls Tryd.prog 36 #[.slice (some ⟨g, 0, none⟩) 20 20, .string (tl s)] W fun e w' => e = .returned (.tuple #[]) ∧ Cz w' g (pk (tl s) 20) ∧ W.grownBy w' (some g)) := fun W g hz => readC_any (by simp) (by omega) (by omega) hp.2.2 W hz
  have lP := pk_len (tl s) 20
  have zc : ((tl s).size : Int) = 40 := by omega
  have n40 : (((tl s).size : Int) != 40) = false := by rw [zc]; rfl
  have MX : Hid (∀ W, Calls Tryd.prog 37 #[.string (tl s)] W fun e w' => e = .returned (.bool true) ∧ w' = W) := fun W => by
    have := hmix_any (t := tl s) (by omega) W
    rw [h40, mx] at this
    exact this
  have bP : ∀ i, 0 ≤ (pk (tl s) 20).getD i 0 ∧ (pk (tl s) 20).getD i 0 < 256 := pk_low hp.2.2 (by omega)
  have CK : Hid (∀ W, Below w.heap.size w W → Calls Tryd.prog 8 #[.agg ((pk (tl s) 20).map (Value.int .u8)).toArray] W fun e w' => e = .returned (.string ⟨(ckS (pk (tl s) 20)).toArray⟩) ∧ Below W.heap.size W w') := fun W BW => checksum_any lP bP W (tb1.keep BW) (tb2.keep BW)
  obtain ⟨cs, ecs⟩ : ∃ cs : ByteArray, Hid (cs = ⟨(ckS (pk (tl s) 20)).toArray⟩) := ⟨_, rfl⟩
  rw [← ecs.out] at CK es
  have bs : (s.toList == cs.toList) = true := by rw [es]; exact beq_self_eq_true _
  clear es bP
  obtain ⟨N, eN⟩ : ∃ N, Hid (N = (pk (tl s) 20).map (Value.int .u8)) := ⟨_, rfl⟩
  rw [← eN.out] at CK ⊢
  clear hs hp h40 mx tb1 tb2
  go_enter Tryd.func9, Tryd.ntmps9
  go_wp2_with fail
  refine calls_world (fun W => Below w.heap.size w W ∧ Cz W w.heap.size (List.replicate 20 (0 : Int)) ∧ Cz W (w.heap.size + 1) (List.replicate 20 (0 : Int))) (new2 rfl) ?_
  rintro W ⟨B, hR, hC⟩
  with_reducible refine (ht W).mono ?_
  rintro e1 w1 ⟨rfl, hw1⟩
  rw [hw1]
  clear hw1 w1
  have lt1 : w.heap.size + 1 < W.heap.size := hC.lt (by decide)
  have o1 : w.heap.size ≤ w.heap.size + 1 := by omega
  have nb : w.heap.size + 1 ≠ w.heap.size := by omega
  generalize w.heap.size + 1 = ba at *
  go_wp2_with fail
  with_reducible refine (RD.out W ba hC).mono ?_
  rintro e2 w2 ⟨rfl, hP, hg⟩
  replace B := B.grown hg (by omega) (fun k hk => by cases hk; exact o1)
  replace hR := hR.grown hg (fun e => nb (Option.some.inj e))
  clear hC hg lt1 W RD
  have tr : w2.there w.heap.size 0 N.toArray.size := by rw [eN.out]; simpa [lP] using hR.there
  have rg : w2.rangeAt ba 0 N := by rw [eN.out]; exact hP.range
  have lN : (Tryd.prog.info? 23).map (·.size) = some N.length := by rw [show N.length = 20 by rw [eN.out, List.length_map, lP]]; kernel_rfl
  have oN : N.toArray.all (·.oneCell') = true := by rw [eN.out]; exact one_u8 _
  have lN2 : (Tryd.prog.info? 23).map (·.size) = some N.toArray.size := by simpa using lN
  clear tr oN lN2
  go_wp2_with fail
  with_reducible refine (MX.out _).mono ?_
  rintro e3 w3 ⟨rfl, hw3⟩
  rw [hw3]
  clear hw3 w3
  go_wp2_with ((with_reducible refine wpList_load_wantH (ty := 23) ba 0 N _ rg Tryd.underlying23 ?_ lN ?_ ?_ ?_); rfl; rfl; rfl; simp only [Act.put, List.setIfInBounds_toArray, List.set_cons_succ, List.set_cons_zero])
  with_reducible refine (CK.out _ B).mono ?_
  rintro e4 w4 ⟨rfl, hb4⟩
  replace B := B.trans (hb4.mono B.size)
  replace hR := hR.keep hb4
  replace hP := hP.keep hb4
  clear hb4 rg lN CK MX
  have tr : w4.there w.heap.size 0 N.toArray.size := by rw [eN.out]; simpa [lP] using hR.there
  have rg : w4.rangeAt ba 0 N := by rw [eN.out]; exact hP.range
  have lN : (Tryd.prog.info? 23).map (·.size) = some N.length := by rw [show N.length = 20 by rw [eN.out, List.length_map, lP]]; kernel_rfl
  have oN : N.toArray.all (·.oneCell') = true := by rw [eN.out]; exact one_u8 _
  have lN2 : (Tryd.prog.info? 23).map (·.size) = some N.toArray.size := by simpa using lN
  clear hR hP
  go_wp2_with first | (refine wpList_load_mid rfl 23 _ rfl ba 0 rfl N _ rg Tryd.underlying23 rfl lN ?_) | ((refine wpList_store_mid rfl 23 _ _ rfl w.heap.size 0 N.toArray rfl rfl tr lN2 oN ?_); (refine wpListH (fun W' => Below w.heap.size w W' ∧ W'.rangeAt w.heap.size 0 N) (laidH B (Nat.le_refl _) (by simpa using tr)) ?_); rintro W' ⟨B', hD⟩)
  have ld := run_loadVar_mid (P := Tryd.prog) W' w.heap.size 0 23 N _ hD Tryd.underlying23 rfl lN
  refine bodyPost_ret (v := .tuple #[.agg N.toArray, .int .i64 0]) ?_ rfl ⟨rfl, B'⟩
  simp [results, Tryd.results9, asAddr, ld]
set_option maxRecDepth 100000 in
set_option maxHeartbeats 4000000 in
theorem pa_wrong {s : ByteArray} (hs : s.size < 140737488355328) (hp : okP s) (h40 : (tl s).size = 40) (mx : (smA (tl s) 40 && caA (tl s) 40) = true) (es : s ≠ ⟨(ckS (pk (tl s) 20)).toArray⟩) (w : World) (tb1 : Tab w 4 turnsN) (tb2 : Lns w 2 marksN) :
    Calls Tryd.prog 9 #[.string s] w fun e w' => e = .returned (.tuple #[.agg ((List.replicate 20 (0 : Int)).map (Value.int .u8)).toArray, .int .i64 84]) ∧ Below w.heap.size w w' := by
  have ht := tailOf_yes hs hp
  have RD : Hid (∀ W g, Cz W g (List.replicate 20 (0 : Int)) → Calls Tryd.prog 36 #[.slice (some ⟨g, 0, none⟩) 20 20, .string (tl s)] W fun e w' => e = .returned (.tuple #[]) ∧ Cz w' g (pk (tl s) 20) ∧ W.grownBy w' (some g)) := fun W g hz => readC_any (by simp) (by omega) (by omega) hp.2.2 W hz
  have lP := pk_len (tl s) 20
  have zc : ((tl s).size : Int) = 40 := by omega
  have n40 : (((tl s).size : Int) != 40) = false := by rw [zc]; rfl
  have MX : Hid (∀ W, Calls Tryd.prog 37 #[.string (tl s)] W fun e w' => e = .returned (.bool true) ∧ w' = W) := fun W => by
    have := hmix_any (t := tl s) (by omega) W
    rw [h40, mx] at this
    exact this
  have bP : ∀ i, 0 ≤ (pk (tl s) 20).getD i 0 ∧ (pk (tl s) 20).getD i 0 < 256 := pk_low hp.2.2 (by omega)
  have CK : Hid (∀ W, Below w.heap.size w W → Calls Tryd.prog 8 #[.agg ((pk (tl s) 20).map (Value.int .u8)).toArray] W fun e w' => e = .returned (.string ⟨(ckS (pk (tl s) 20)).toArray⟩) ∧ Below W.heap.size W w') := fun W BW => checksum_any lP bP W (tb1.keep BW) (tb2.keep BW)
  obtain ⟨cs, ecs⟩ : ∃ cs : ByteArray, Hid (cs = ⟨(ckS (pk (tl s) 20)).toArray⟩) := ⟨_, rfl⟩
  rw [← ecs.out] at CK es
  have bs : (s.toList == cs.toList) = false := beq_false_of_ne (fun x => es (text_inj x))
  clear es bP
  obtain ⟨N, eN⟩ : ∃ N, Hid (N = (pk (tl s) 20).map (Value.int .u8)) := ⟨_, rfl⟩
  rw [← eN.out] at CK
  clear hs hp h40 mx tb1 tb2
  go_enter Tryd.func9, Tryd.ntmps9
  go_wp2_with fail
  refine calls_world (fun W => Below w.heap.size w W ∧ Cz W w.heap.size (List.replicate 20 (0 : Int)) ∧ Cz W (w.heap.size + 1) (List.replicate 20 (0 : Int))) (new2 rfl) ?_
  rintro W ⟨B, hR, hC⟩
  with_reducible refine (ht W).mono ?_
  rintro e1 w1 ⟨rfl, hw1⟩
  rw [hw1]
  clear hw1 w1
  have lt1 : w.heap.size + 1 < W.heap.size := hC.lt (by decide)
  have o1 : w.heap.size ≤ w.heap.size + 1 := by omega
  have nb : w.heap.size + 1 ≠ w.heap.size := by omega
  generalize w.heap.size + 1 = ba at *
  go_wp2_with fail
  with_reducible refine (RD.out W ba hC).mono ?_
  rintro e2 w2 ⟨rfl, hP, hg⟩
  replace B := B.grown hg (by omega) (fun k hk => by cases hk; exact o1)
  replace hR := hR.grown hg (fun e => nb (Option.some.inj e))
  clear hC hg lt1 W RD
  have tr : w2.there w.heap.size 0 N.toArray.size := by rw [eN.out]; simpa [lP] using hR.there
  have rg : w2.rangeAt ba 0 N := by rw [eN.out]; exact hP.range
  have lN : (Tryd.prog.info? 23).map (·.size) = some N.length := by rw [show N.length = 20 by rw [eN.out, List.length_map, lP]]; kernel_rfl
  have oN : N.toArray.all (·.oneCell') = true := by rw [eN.out]; exact one_u8 _
  have lN2 : (Tryd.prog.info? 23).map (·.size) = some N.toArray.size := by simpa using lN
  clear tr oN lN2
  go_wp2_with fail
  with_reducible refine (MX.out _).mono ?_
  rintro e3 w3 ⟨rfl, hw3⟩
  rw [hw3]
  clear hw3 w3
  go_wp2_with ((with_reducible refine wpList_load_wantH (ty := 23) ba 0 N _ rg Tryd.underlying23 ?_ lN ?_ ?_ ?_); rfl; rfl; rfl; simp only [Act.put, List.setIfInBounds_toArray, List.set_cons_succ, List.set_cons_zero])
  with_reducible refine (CK.out _ B).mono ?_
  rintro e4 w4 ⟨rfl, hb4⟩
  replace B := B.trans (hb4.mono B.size)
  replace hR := hR.keep hb4
  replace hP := hP.keep hb4
  clear hb4 rg lN CK MX
  have tr : w4.there w.heap.size 0 ((List.replicate 20 (0 : Int)).map (Value.int .u8)).toArray.size := by simpa using hR.there
  clear hR hP
  obtain ⟨Dz, eD⟩ : ∃ D, Hid (D = (List.replicate 20 (0 : Int)).map (Value.int .u8)) := ⟨_, rfl⟩
  go_wp2_with ((refine wpList_store_mid rfl 23 _ _ rfl w.heap.size 0 ((List.replicate 20 (0 : Int)).map (Value.int .u8)).toArray rfl rfl tr (by kernel_rfl) (one_u8 _) ?_); (refine wpListH (fun W' => Below w.heap.size w W' ∧ W'.rangeAt w.heap.size 0 Dz) (by rw [eD.out]; exact laidH B (Nat.le_refl _) (by simpa using tr)) ?_); rintro W' ⟨B', hD⟩)
  have ld := run_loadVar_mid (P := Tryd.prog) W' w.heap.size 0 23 Dz _ hD Tryd.underlying23 rfl (by rw [eD.out]; kernel_rfl)
  refine bodyPost_ret (v := .tuple #[.agg Dz.toArray, .int .i64 84]) ?_ rfl ⟨by rw [eD.out], B'⟩
  simp [results, Tryd.results9, asAddr, ld]
/-- What ParseAddress answers: the bytes, the error. -/
noncomputable def paX (s : ByteArray) : List Int := open Classical in if okP s ∧ (tl s).size = 40 ∧ ((smA (tl s) 40 && caA (tl s) 40) = false ∨ s = ⟨(ckS (pk (tl s) 20)).toArray⟩) then pk (tl s) 20 else List.replicate 20 0
noncomputable def paE (s : ByteArray) : Int := open Classical in if okP s ∧ (tl s).size = 40 then (if (smA (tl s) 40 && caA (tl s) 40) = false ∨ s = ⟨(ckS (pk (tl s) 20)).toArray⟩ then 0 else 84) else 80
theorem pa_any {s : ByteArray} (hs : s.size < 140737488355328) (w : World) (tb1 : Tab w 4 turnsN) (tb2 : Lns w 2 marksN) :
    Calls Tryd.prog 9 #[.string s] w fun e w' => e = .returned (.tuple #[.agg ((paX s).map (Value.int .u8)).toArray, .int .i64 (paE s)]) ∧ Below w.heap.size w w' := by
  by_cases h : okP s ∧ (tl s).size = 40
  · by_cases k : (smA (tl s) 40 && caA (tl s) 40) = false ∨ s = ⟨(ckS (pk (tl s) 20)).toArray⟩
    · have e1 : paX s = pk (tl s) 20 := by unfold paX; rw [if_pos ⟨h.1, h.2, k⟩]
      have e2 : paE s = 0 := by unfold paE; rw [if_pos h, if_pos k]
      rw [e1, e2]
      by_cases mx : (smA (tl s) 40 && caA (tl s) 40) = false
      · exact pa_plain hs h.1 h.2 mx w
      · exact pa_right hs h.1 h.2 (by simpa using mx) (k.resolve_left mx) w tb1 tb2
    · have e1 : paX s = List.replicate 20 0 := by unfold paX; rw [if_neg (fun x => k x.2.2)]
      have e2 : paE s = 84 := by unfold paE; rw [if_pos h, if_neg k]
      rw [e1, e2]
      have mx : (smA (tl s) 40 && caA (tl s) 40) = true := by
        cases q : (smA (tl s) 40 && caA (tl s) 40)
        · exact absurd (.inl q) k
        · rfl
      exact pa_wrong hs h.1 h.2 mx (fun x => k (.inr x)) w tb1 tb2
  · have e1 : paX s = List.replicate 20 0 := by unfold paX; rw [if_neg (fun x => h ⟨x.1, x.2.1⟩)]
    have e2 : paE s = 80 := by unfold paE; rw [if_neg h]
    rw [e1, e2]
    exact pa_no hs h w
end Go.Proofs.YtidchaaahgnabaaDoor
