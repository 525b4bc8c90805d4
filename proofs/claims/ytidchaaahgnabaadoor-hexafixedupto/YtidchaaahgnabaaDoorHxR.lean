import Derived.Test.YtidchaaahgnabaaDoorHxV
/- Layer 8: the document's ParseAddress and ParseHash. -/
namespace Go.Proofs.YtidchaaahgnabaaDoor
open Go.RowKit Go.Sort
/-- copy(a[:], v): a whole array out of a list of its length. -/
theorem wpList_copy_arr {w : World} {ops : Array Oper} {rest : List Oper} {o : Oper} {a : Act} {Q : Exit → Act → World → Prop} (hgd : o.guard = none) (d s : Operand)
    (ho : o.op = .call { callee := .builtin .copy, args := #[d, s], argTypes := #[30, 30] })
    {g gp n dCap sCap : Nat} {Z : List Int} (hd : a.eval d = .slice (some ⟨g, 0, none⟩) n dCap) (hs : a.eval s = .slice (some ⟨gp, 0, none⟩) n sCap) (hn : Z.length = n) (ht : w.there g 0 n) (hc : ∀ i, i < n → w.cell? ⟨gp, i, none⟩ = some (.int .u8 (Z.getD i 0)))
    (h : ∀ x, wpList Tryd.prog ops Q rest (a.put o.dst x) (w.setCells g 0 (Z.map (Value.int .u8)))) : wpList Tryd.prog ops Q (o :: rest) a w := by
  refine wpList_plain hgd fun K hK => ?_
  have lz : (Z.map (Value.int .u8)).length = n := by rw [List.length_map, hn]
  have hrun := run_copy_cells (P := Tryd.prog) w 30 30 o.type 5 g 0 n dCap ⟨gp, 0, none⟩ n sCap (Z.map (Value.int .u8)) Tryd.underlying30 (by kernel_rfl) (by rw [lz]; exact (Nat.min_self _).symm) (fun j v hv => by
      rw [List.getElem?_map] at hv
      obtain ⟨x, hx, rfl⟩ := Option.map_eq_some_iff.1 hv
      have hj : j < Z.length := (List.getElem?_eq_some_iff.1 hx).1
      rw [Addr.add_mid, Nat.zero_add, hc j (by omega)]
      simp [List.getD, hx]) (fun j hj => (ht j (by omega)).1) (fun j hj => (ht j (by omega)).2) (fun v hv => by obtain ⟨x, _, rfl⟩ := List.mem_map.1 hv; rfl)
  unfold Oper.wp
  simp [execOp, ho, resolve, invoke, builtin, hd, hs, hrun, Result.andThen]
  exact hK _ _ (h _)
theorem Cz.other {W : World} {g g' : Nat} {X : List Int} (h : Cz W g X) (ne : g' ≠ g) (vs : List Value) : Cz (W.setCells g' 0 vs) g X := fun i hi =>
  ⟨by rw [World.cell?_setCells_out _ _ _ _ _ (fun e => by simp at e; exact absurd e.symm ne)]; exact (h i hi).1, by rw [World.frozen?_setCells]; exact (h i hi).2⟩
theorem Cz.here {W : World} {g : Nat} {X Z : List Int} (h : Cz W g X) (hl : Z.length = X.length) : (W.setCells g 0 (Z.map (Value.int .u8))).rangeAt g 0 (Z.map (Value.int .u8)) :=
  World.rangeAt_setCells_same _ _ _ _ (by rw [List.length_map, hl]; exact h.there)
theorem OwnB.slice {B : Nat} {W : World} {v : Value} {X : List Int} (h : OwnB B W v X) (h0 : 0 < X.length) : ∃ g cap, v = .slice (some ⟨g, 0, none⟩) X.length cap ∧ ∀ i, i < X.length → W.cell? ⟨g, i, none⟩ = some (.int .u8 (X.getD i 0)) := by
  rcases h.2 with ⟨_, h1⟩ | ⟨g, cap, cur, rfl, _⟩
  · omega
  · exact ⟨g, cap, rfl, fun i hi => OwnB.cell h rfl hi⟩
set_option maxRecDepth 100000 in
set_option maxHeartbeats 4000000 in
theorem rph_no {s : ByteArray} (hs : s.size < 1073741824) (h : ¬ (okP s ∧ (tl s).size = 64)) (w : World) :
    Calls Tryd.prog 26 #[.string s] w fun e w' => e = .returned (.tuple #[.agg ((List.replicate 32 (0 : Int)).map (Value.int .u8)).toArray, .int .i64 80]) ∧ Below w.heap.size w w' := by
  by_cases hp : okP s
  · have n40 : (((tl s).size : Int) != 64) = true := by simp; exact fun x => h ⟨hp, by omega⟩
    have ht := rtail_lies hs hp
    clear h hs hp
    go_enter Tryd.func26, Tryd.ntmps26
    go_wp2_with fail
    refine calls_world (fun W => Below w.heap.size w W ∧ Cz W w.heap.size (List.replicate 32 (0 : Int)) ∧ Cz W (w.heap.size + 1) (List.replicate 32 (0 : Int))) (new2 rfl) ?_
    rintro W ⟨B, hR, hC⟩
    with_reducible refine (ht W).mono ?_
    rintro e1 w1 ⟨a, g, c, rfl, ha, hD, hb⟩
    replace B := B.trans (hb.mono B.size)
    replace hR := hR.keep hb
    replace hC := hC.keep hb
    clear hb ha hD W
    obtain ⟨Dz, eD⟩ : ∃ D, Hid (D = (List.replicate 32 (0 : Int)).map (Value.int .u8)) := ⟨_, rfl⟩
    have tr : w1.there w.heap.size 0 Dz.toArray.size := by rw [eD.out]; simpa using hR.there
    have rg : w1.rangeAt (w.heap.size + 1) 0 Dz := by rw [eD.out]; exact hC.range
    have lD : (Tryd.prog.info? 36).map (·.size) = some Dz.length := by rw [eD.out]; kernel_rfl
    have lD2 : (Tryd.prog.info? 36).map (·.size) = some Dz.toArray.size := by simpa using lD
    have oD : Dz.toArray.all (·.oneCell') = true := by rw [eD.out]; exact one_u8 _
    clear hR hC
    go_wp2_with first | (refine wpList_load_mid rfl 36 _ rfl (w.heap.size + 1) 0 rfl Dz _ rg Tryd.underlying36 rfl lD ?_) | ((refine wpList_store_mid rfl 36 _ _ rfl w.heap.size 0 Dz.toArray rfl rfl tr lD2 oD ?_); (refine wpListH (fun W' => Below w.heap.size w W' ∧ W'.rangeAt w.heap.size 0 Dz) (laidH B (Nat.le_refl _) (by simpa using tr)) ?_); rintro W' ⟨B', hD⟩)
    have ld := run_loadVar_mid (P := Tryd.prog) W' w.heap.size 0 36 Dz _ hD Tryd.underlying36 rfl lD
    refine bodyPost_ret (v := .tuple #[.agg Dz.toArray, .int .i64 80]) ?_ rfl ⟨by rw [eD.out], B'⟩
    simp [results, Tryd.results26, asAddr, ld]
  · have ht := rtail_no hs hp
    clear h hs hp
    go_enter Tryd.func26, Tryd.ntmps26
    go_wp2_with fail
    refine calls_world (fun W => Below w.heap.size w W ∧ Cz W w.heap.size (List.replicate 32 (0 : Int)) ∧ Cz W (w.heap.size + 1) (List.replicate 32 (0 : Int))) (new2 rfl) ?_
    rintro W ⟨B, hR, hC⟩
    with_reducible refine (ht W).mono ?_
    rintro e1 w1 ⟨rfl, hb⟩
    replace B := B.trans (hb.mono B.size)
    replace hR := hR.keep hb
    replace hC := hC.keep hb
    clear hb W
    obtain ⟨Dz, eD⟩ : ∃ D, Hid (D = (List.replicate 32 (0 : Int)).map (Value.int .u8)) := ⟨_, rfl⟩
    have tr : w1.there w.heap.size 0 Dz.toArray.size := by rw [eD.out]; simpa using hR.there
    have rg : w1.rangeAt (w.heap.size + 1) 0 Dz := by rw [eD.out]; exact hC.range
    have lD : (Tryd.prog.info? 36).map (·.size) = some Dz.length := by rw [eD.out]; kernel_rfl
    have lD2 : (Tryd.prog.info? 36).map (·.size) = some Dz.toArray.size := by simpa using lD
    have oD : Dz.toArray.all (·.oneCell') = true := by rw [eD.out]; exact one_u8 _
    clear hR hC
    go_wp2_with first | (refine wpList_load_mid rfl 36 _ rfl (w.heap.size + 1) 0 rfl Dz _ rg Tryd.underlying36 rfl lD ?_) | ((refine wpList_store_mid rfl 36 _ _ rfl w.heap.size 0 Dz.toArray rfl rfl tr lD2 oD ?_); (refine wpListH (fun W' => Below w.heap.size w W' ∧ W'.rangeAt w.heap.size 0 Dz) (laidH B (Nat.le_refl _) (by simpa using tr)) ?_); rintro W' ⟨B', hD⟩)
    have ld := run_loadVar_mid (P := Tryd.prog) W' w.heap.size 0 36 Dz _ hD Tryd.underlying36 rfl lD
    refine bodyPost_ret (v := .tuple #[.agg Dz.toArray, .int .i64 80]) ?_ rfl ⟨by rw [eD.out], B'⟩
    simp [results, Tryd.results26, asAddr, ld]
set_option maxRecDepth 100000 in
set_option maxHeartbeats 4000000 in
theorem rph_ok {s : ByteArray} (hs : s.size < 1073741824) (hp : okP s) (h64 : (tl s).size = 64) (w : World) :
    Calls Tryd.prog 26 #[.string s] w fun e w' => e = .returned (.tuple #[.agg ((pk (tl s) 32).map (Value.int .u8)).toArray, .int .i64 0]) ∧ Below w.heap.size w w' := by
  have ht := rtail_lies hs hp
  have HT : Hid ((tl s).size = 2 * 32 ∧ dgs (tl s)) := ⟨by omega, hp.2.2⟩
  have lP := pk_len (tl s) 32
  have zc : ((tl s).size : Int) = 64 := by omega
  have n40 : (((tl s).size : Int) != 64) = false := by rw [zc]; rfl
  obtain ⟨N, eN⟩ : ∃ N, Hid (N = (pk (tl s) 32).map (Value.int .u8)) := ⟨_, rfl⟩
  rw [← eN.out]
  clear hs hp h64
  go_enter Tryd.func26, Tryd.ntmps26
  go_wp2_with fail
  refine calls_world (fun W => Below w.heap.size w W ∧ Cz W w.heap.size (List.replicate 32 (0 : Int)) ∧ Cz W (w.heap.size + 1) (List.replicate 32 (0 : Int))) (new2 rfl) ?_
  rintro W ⟨B, hR, hC⟩
  with_reducible refine (ht W).mono ?_
  rintro e1 w1 ⟨a, g, c, rfl, ha, hD, hb⟩
  replace B := B.trans (hb.mono B.size)
  replace hR := hR.keep hb
  replace hC := hC.keep hb
  have PKD : Calls Tryd.prog 43 #[.slice a (tl s).size c] w1 fun e w' => ∃ v, e = .returned v ∧ OwnB w1.heap.size w' v (pk (tl s) 32) ∧ Below w1.heap.size w1 w' := packed_any HT.out.1 (by decide) HT.out.2 ha w1 hD
  clear hb ha hD W
  go_wp2_with fail
  with_reducible refine PKD.mono ?_
  rintro e2 w2 ⟨v, rfl, ov, hb⟩
  replace B := B.trans (hb.mono B.size)
  replace hR := hR.keep hb
  replace hC := hC.keep hb
  clear hb PKD
  obtain ⟨gp, cap, rfl, cp⟩ := ov.slice (by rw [lP]; decide)
  rw [lP] at cp ⊢
  have o1 : w.heap.size ≤ w.heap.size + 1 := by omega
  have nb : w.heap.size + 1 ≠ w.heap.size := by omega
  clear ov
  have tC := hC.there
  rw [List.length_replicate] at tC
  have B3 := below_cellsH B o1 ((pk (tl s) 32).map (Value.int .u8)) 0
  have R3 := hR.other nb ((pk (tl s) 32).map (Value.int .u8))
  have C3 := hC.here (Z := pk (tl s) 32) (by rw [lP]; simp)
  rw [← eN.out] at B3 R3 C3
  clear hR hC B
  have TRF : Hid (∀ W3 : World, Cz W3 w.heap.size (List.replicate 32 (0 : Int)) → W3.there w.heap.size 0 N.toArray.size) := fun W3 hR => by rw [eN.out]; simpa [lP] using hR.there
  have lN : (Tryd.prog.info? 36).map (·.size) = some N.length := by rw [show N.length = 32 by rw [eN.out, List.length_map, lP]]; kernel_rfl
  have oN : N.toArray.all (·.oneCell') = true := by rw [eN.out]; exact one_u8 _
  have lN2 : (Tryd.prog.info? 36).map (·.size) = some N.toArray.size := by simpa using lN
  generalize w.heap.size + 1 = ba at *
  go_wp2_with first | ((refine wpList_copy_arr rfl _ _ rfl rfl rfl lP tC cp (fun x => ?_)); (rw [← eN.out]); (refine wpListH (fun W => Below w.heap.size w W ∧ W.there w.heap.size 0 N.toArray.size ∧ W.rangeAt ba 0 N) ⟨B3, TRF.out _ R3, C3⟩ ?_); rintro W3 ⟨B, tr, rg⟩) | (refine wpList_load_mid rfl 36 _ rfl ba 0 rfl N _ rg Tryd.underlying36 rfl lN ?_) | ((refine wpList_store_mid rfl 36 _ _ rfl w.heap.size 0 N.toArray rfl rfl tr lN2 oN ?_); (refine wpListH (fun W' => Below w.heap.size w W' ∧ W'.rangeAt w.heap.size 0 N) (laidH B (Nat.le_refl _) (by simpa using tr)) ?_); rintro W' ⟨B', hD⟩)
  have ld := run_loadVar_mid (P := Tryd.prog) W' w.heap.size 0 36 N _ hD Tryd.underlying36 rfl lN
  refine bodyPost_ret (v := .tuple #[.agg N.toArray, .int .i64 0]) ?_ rfl ⟨rfl, B'⟩
  simp [results, Tryd.results26, asAddr, ld]
set_option maxRecDepth 100000 in
set_option maxHeartbeats 4000000 in
theorem rpa_no {s : ByteArray} (hs : s.size < 1073741824) (h : ¬ (okP s ∧ (tl s).size = 40)) (w : World) :
    Calls Tryd.prog 24 #[.string s] w fun e w' => e = .returned (.tuple #[.agg ((List.replicate 20 (0 : Int)).map (Value.int .u8)).toArray, .int .i64 80]) ∧ Below w.heap.size w w' := by
  by_cases hp : okP s
  · have n40 : (((tl s).size : Int) != 40) = true := by simp; exact fun x => h ⟨hp, by omega⟩
    have ht := rtail_lies hs hp
    clear h hs hp
    go_enter Tryd.func24, Tryd.ntmps24
    go_wp2_with fail
    refine calls_world (fun W => Below w.heap.size w W ∧ Cz W w.heap.size (List.replicate 20 (0 : Int)) ∧ Cz W (w.heap.size + 1) (List.replicate 20 (0 : Int))) (new2 rfl) ?_
    rintro W ⟨B, hR, hC⟩
    with_reducible refine (ht W).mono ?_
    rintro e1 w1 ⟨a, g, c, rfl, ha, hD, hb⟩
    replace B := B.trans (hb.mono B.size)
    replace hR := hR.keep hb
    replace hC := hC.keep hb
    clear hb ha hD W
    obtain ⟨Dz, eD⟩ : ∃ D, Hid (D = (List.replicate 20 (0 : Int)).map (Value.int .u8)) := ⟨_, rfl⟩
    have tr : w1.there w.heap.size 0 Dz.toArray.size := by rw [eD.out]; simpa using hR.there
    have rg : w1.rangeAt (w.heap.size + 1) 0 Dz := by rw [eD.out]; exact hC.range
    have lD : (Tryd.prog.info? 23).map (·.size) = some Dz.length := by rw [eD.out]; kernel_rfl
    have lD2 : (Tryd.prog.info? 23).map (·.size) = some Dz.toArray.size := by simpa using lD
    have oD : Dz.toArray.all (·.oneCell') = true := by rw [eD.out]; exact one_u8 _
    clear hR hC
    go_wp2_with first | (refine wpList_load_mid rfl 23 _ rfl (w.heap.size + 1) 0 rfl Dz _ rg Tryd.underlying23 rfl lD ?_) | ((refine wpList_store_mid rfl 23 _ _ rfl w.heap.size 0 Dz.toArray rfl rfl tr lD2 oD ?_); (refine wpListH (fun W' => Below w.heap.size w W' ∧ W'.rangeAt w.heap.size 0 Dz) (laidH B (Nat.le_refl _) (by simpa using tr)) ?_); rintro W' ⟨B', hD⟩)
    have ld := run_loadVar_mid (P := Tryd.prog) W' w.heap.size 0 23 Dz _ hD Tryd.underlying23 rfl lD
    refine bodyPost_ret (v := .tuple #[.agg Dz.toArray, .int .i64 80]) ?_ rfl ⟨by rw [eD.out], B'⟩
    simp [results, Tryd.results24, asAddr, ld]
  · have ht := rtail_no hs hp
    clear h hs hp
    go_enter Tryd.func24, Tryd.ntmps24
    go_wp2_with fail
    refine calls_world (fun W => Below w.heap.size w W ∧ Cz W w.heap.size (List.replicate 20 (0 : Int)) ∧ Cz W (w.heap.size + 1) (List.replicate 20 (0 : Int))) (new2 rfl) ?_
    rintro W ⟨B, hR, hC⟩
    with_reducible refine (ht W).mono ?_
    rintro e1 w1 ⟨rfl, hb⟩
    replace B := B.trans (hb.mono B.size)
    replace hR := hR.keep hb
    replace hC := hC.keep hb
    clear hb W
    obtain ⟨Dz, eD⟩ : ∃ D, Hid (D = (List.replicate 20 (0 : Int)).map (Value.int .u8)) := ⟨_, rfl⟩
    have tr : w1.there w.heap.size 0 Dz.toArray.size := by rw [eD.out]; simpa using hR.there
    have rg : w1.rangeAt (w.heap.size + 1) 0 Dz := by rw [eD.out]; exact hC.range
    have lD : (Tryd.prog.info? 23).map (·.size) = some Dz.length := by rw [eD.out]; kernel_rfl
    have lD2 : (Tryd.prog.info? 23).map (·.size) = some Dz.toArray.size := by simpa using lD
    have oD : Dz.toArray.all (·.oneCell') = true := by rw [eD.out]; exact one_u8 _
    clear hR hC
    go_wp2_with first | (refine wpList_load_mid rfl 23 _ rfl (w.heap.size + 1) 0 rfl Dz _ rg Tryd.underlying23 rfl lD ?_) | ((refine wpList_store_mid rfl 23 _ _ rfl w.heap.size 0 Dz.toArray rfl rfl tr lD2 oD ?_); (refine wpListH (fun W' => Below w.heap.size w W' ∧ W'.rangeAt w.heap.size 0 Dz) (laidH B (Nat.le_refl _) (by simpa using tr)) ?_); rintro W' ⟨B', hD⟩)
    have ld := run_loadVar_mid (P := Tryd.prog) W' w.heap.size 0 23 Dz _ hD Tryd.underlying23 rfl lD
    refine bodyPost_ret (v := .tuple #[.agg Dz.toArray, .int .i64 80]) ?_ rfl ⟨by rw [eD.out], B'⟩
    simp [results, Tryd.results24, asAddr, ld]
set_option maxRecDepth 100000 in
set_option maxHeartbeats 8000000 in
theorem rpa_plain {s : ByteArray} (hs : s.size < 1073741824) (hp : okP s) (h40 : (tl s).size = 40) (mx : (smA (tl s) 40 && caA (tl s) 40) = false) (w : World) :
    Calls Tryd.prog 24 #[.string s] w fun e w' => e = .returned (.tuple #[.agg ((pk (tl s) 20).map (Value.int .u8)).toArray, .int .i64 0]) ∧ Below w.heap.size w w' := by
  have zs : s.size = 42 := by have := tl_size s; have := hp.1; omega
  have ht := rtail_lies hs hp
  have HT : Hid ((tl s).size = 2 * 20 ∧ dgs (tl s)) := ⟨by omega, hp.2.2⟩
  have lP := pk_len (tl s) 20
  have zc : ((tl s).size : Int) = 40 := by omega
  have n40 : (((tl s).size : Int) != 40) = false := by rw [zc]; rfl
  obtain ⟨N, eN⟩ : ∃ N, Hid (N = (pk (tl s) 20).map (Value.int .u8)) := ⟨_, rfl⟩
  rw [← eN.out]
  have MX : Hid ((smA (tl s) 40 && caA (tl s) 40) = false) := mx
  clear hs hp h40 mx
  go_enter Tryd.func24, Tryd.ntmps24
  go_wp2_with fail
  refine calls_world (fun W => Below w.heap.size w W ∧ Cz W w.heap.size (List.replicate 20 (0 : Int)) ∧ Cz W (w.heap.size + 1) (List.replicate 20 (0 : Int))) (new2 rfl) ?_
  rintro W ⟨B, hR, hC⟩
  with_reducible refine (ht W).mono ?_
  rintro e1 w1 ⟨a, g, c, rfl, ha, hD, hb⟩
  replace B := B.trans (hb.mono B.size)
  replace hR := hR.keep hb
  replace hC := hC.keep hb
  have PKD : Calls Tryd.prog 43 #[.slice a (tl s).size c] w1 fun e w' => ∃ v, e = .returned v ∧ OwnB w1.heap.size w' v (pk (tl s) 20) ∧ Below w1.heap.size w1 w' := packed_any HT.out.1 (by decide) HT.out.2 ha w1 hD
  clear hb ha hD W
  go_wp2_with fail
  with_reducible refine PKD.mono ?_
  rintro e2 w2 ⟨v, rfl, ov, hb⟩
  replace B := B.trans (hb.mono B.size)
  replace hR := hR.keep hb
  replace hC := hC.keep hb
  clear hb PKD
  obtain ⟨gp, cap, rfl, cp⟩ := ov.slice (by rw [lP]; decide)
  rw [lP] at cp ⊢
  have o1 : w.heap.size ≤ w.heap.size + 1 := by omega
  have nb : w.heap.size + 1 ≠ w.heap.size := by omega
  clear ov
  have tC := hC.there
  rw [List.length_replicate] at tC
  have B3 := below_cellsH B o1 ((pk (tl s) 20).map (Value.int .u8)) 0
  have R3 := hR.other nb ((pk (tl s) 20).map (Value.int .u8))
  have C3 := hC.here (Z := pk (tl s) 20) (by rw [lP]; simp)
  rw [← eN.out] at B3 R3 C3
  clear hR hC B
  have TRF : Hid (∀ W3 : World, Cz W3 w.heap.size (List.replicate 20 (0 : Int)) → W3.there w.heap.size 0 N.toArray.size) := fun W3 hR => by rw [eN.out]; simpa [lP] using hR.there
  have lN : (Tryd.prog.info? 23).map (·.size) = some N.length := by rw [show N.length = 20 by rw [eN.out, List.length_map, lP]]; kernel_rfl
  have oN : N.toArray.all (·.oneCell') = true := by rw [eN.out]; exact one_u8 _
  have lN2 : (Tryd.prog.info? 23).map (·.size) = some N.toArray.size := by simpa using lN
  generalize w.heap.size + 1 = ba at *
  go_wp2_with ((refine wpList_copy_arr rfl _ _ rfl rfl rfl lP tC cp (fun x => ?_)); (rw [← eN.out]); (refine wpListH (fun W => Below w.heap.size w W ∧ W.there w.heap.size 0 N.toArray.size ∧ W.rangeAt ba 0 N ∧ Cz W w.heap.size (List.replicate 20 (0 : Int))) ⟨B3, TRF.out _ R3, C3, R3⟩ ?_); rintro W3 ⟨B, tr, rg, hR⟩)
  have HW : Hid (Below w.heap.size w W3 ∧ W3.there w.heap.size 0 N.toArray.size ∧ W3.rangeAt ba 0 N ∧ Cz W3 w.heap.size (List.replicate 20 (0 : Int))) := ⟨B, tr, rg, hR⟩
  clear B tr rg hR B3 R3 C3 tC cp TRF lP zc n40 ht
  go_loopg [8, 9, 10] 40 (fun kk sv gv iv wr => ∃ j : Nat, kk = 42 - j ∧ 2 ≤ j ∧ j ≤ 42 ∧ iv = .int .i64 (j : Int) ∧ sv = .bool (smA (tl s) (j - 2)) ∧ gv = .bool (caA (tl s) (j - 2)) ∧ wr = W3)
  case atStart => exact ⟨2, rfl, Nat.le_refl _, by decide, rfl, rfl, rfl, rfl⟩
  case round =>
    obtain ⟨j, hk, hj2, hj, rfl, rfl, rfl, ew⟩ := hrel
    subst ew
    have HK : Hid (gk = 42 - j ∧ 2 ≤ j ∧ j ≤ 42) := ⟨hk, hj2, hj⟩
    clear hk
    by_cases h8 : j = 42
    · subst h8
      have zs' : ¬ ((42 : Int) < (s.size : Int)) := by omega
      have mx := MX.out
      obtain ⟨p, ep⟩ : ∃ p, Hid (p = smA (tl s) (42 - 2)) := ⟨_, rfl⟩
      obtain ⟨q, eq⟩ : ∃ q, Hid (q = caA (tl s) (42 - 2)) := ⟨_, rfl⟩
      have mx2 : (p && q) = false := by rw [ep.out, eq.out]; exact mx
      rw [← ep.out, ← eq.out]
      have tr := HW.out.2.1
      have rg := HW.out.2.2.1
      have B := HW.out.1
      clear mx hj2 hj HK
      cases p <;> cases q
      case true.true => cases mx2
      all_goals
        go_wp2_with first | (refine wpList_load_mid rfl 23 _ rfl ba 0 rfl N _ rg Tryd.underlying23 rfl lN ?_) | ((refine wpList_store_mid rfl 23 _ _ rfl w.heap.size 0 N.toArray rfl rfl tr lN2 oN ?_); (refine wpListH (fun W' => Below w.heap.size w W' ∧ W'.rangeAt w.heap.size 0 N) (laidH B (Nat.le_refl _) (by simpa using tr)) ?_); rintro W' ⟨B', hD⟩)
        have ld := run_loadVar_mid (P := Tryd.prog) W' w.heap.size 0 23 N _ hD Tryd.underlying23 rfl lN
        refine bodyPost_ret (v := .tuple #[.agg N.toArray, .int .i64 0]) ?_ rfl ⟨rfl, B'⟩
        simp [results, Tryd.results24, asAddr, ld]
    · have hlt : j < 42 := by omega
      have hlt' : (j : Int) < 42 := by omega
      have h8s : j < s.size := by omega
      have eb := bt_get s j h8s
      have dg := HT.out.2 (j - 2) (by have := HT.out.1; omega)
      have bt2 : bt (tl s) (j - 2) = bt s j := by rw [tl_bt, Nat.sub_add_cancel hj2]
      rw [bt2] at dg
      have uc := dv_cases dg
      have S1 : smA (tl s) (j + 1 - 2) = (smA (tl s) (j - 2) || decide (97 ≤ bt s j)) := by
        rw [show j + 1 - 2 = (j - 2) + 1 by omega, smA, bt2]
        congr 1
        unfold smB
        by_cases k : 97 ≤ bt s j
        · rw [decide_eq_true k, decide_eq_true (show bt s j ≤ 102 by omega)]; rfl
        · rw [decide_eq_false k]; rfl
      have C1 : caA (tl s) (j + 1 - 2) = (caA (tl s) (j - 2) || (decide (65 ≤ bt s j) && decide (bt s j ≤ 70))) := by
        rw [show j + 1 - 2 = (j - 2) + 1 by omega, caA, bt2]; rfl
      have HS : Hid (smA (tl s) (j + 1 - 2) = (smA (tl s) (j - 2) || decide (97 ≤ bt s j)) ∧ caA (tl s) (j + 1 - 2) = (caA (tl s) (j - 2) || (decide (65 ≤ bt s j) && decide (bt s j ≤ 70)))) := ⟨S1, C1⟩
      generalize smA (tl s) (j - 2) = p at *
      generalize caA (tl s) (j - 2) = q at *
      generalize bt s j = c at *
      have UC : Hid ((48 ≤ c ∧ c ≤ 57) ∨ (97 ≤ c ∧ c ≤ 102) ∨ (65 ≤ c ∧ c ≤ 70)) := uc
      clear dg bt2 S1 C1 hj uc hj2
      by_cases k65 : 65 ≤ c
      · cases p <;> cases q
        all_goals
          go_wp2
          go_roundg (42 - (j + 1))
          case measure => have := HK.out; omega
          case rel => exact ⟨j + 1, rfl, by have := HK.out; omega, hlt, by go_num, by rw [HS.out.1]; simp, by rw [HS.out.2, decide_eq_true (show 65 ≤ c by omega)]; simp, rfl⟩
      · cases p <;> cases q
        all_goals
          go_wp2
          go_roundg (42 - (j + 1))
          case measure => have := HK.out; omega
          case rel => exact ⟨j + 1, rfl, by have := HK.out; omega, hlt, by go_num, by rw [HS.out.1]; simp, by rw [HS.out.2, decide_eq_false (show ¬ 65 ≤ c by omega)]; simp, rfl⟩
set_option maxRecDepth 100000 in
set_option maxHeartbeats 8000000 in
theorem rpa_right {s : ByteArray} (hs : s.size < 1073741824) (hp : okP s) (h40 : (tl s).size = 40) (mx : (smA (tl s) 40 && caA (tl s) 40) = true) (es : s = ⟨(ckS (pk (tl s) 20)).toArray⟩) (w : World) (tb1 : Tab w 3 turnsN) (tb2 : Lns w 0 marksN) :
    Calls Tryd.prog 24 #[.string s] w fun e w' => e = .returned (.tuple #[.agg ((pk (tl s) 20).map (Value.int .u8)).toArray, .int .i64 0]) ∧ Below w.heap.size w w' := by
  have zs : s.size = 42 := by have := tl_size s; have := hp.1; omega
  have ht := rtail_lies hs hp
  have HT : Hid ((tl s).size = 2 * 20 ∧ dgs (tl s)) := ⟨by omega, hp.2.2⟩
  have lP := pk_len (tl s) 20
  have zc : ((tl s).size : Int) = 40 := by omega
  have n40 : (((tl s).size : Int) != 40) = false := by rw [zc]; rfl
  obtain ⟨N, eN⟩ : ∃ N, Hid (N = (pk (tl s) 20).map (Value.int .u8)) := ⟨_, rfl⟩
  have bP : ∀ i, 0 ≤ (pk (tl s) 20).getD i 0 ∧ (pk (tl s) 20).getD i 0 < 256 := pk_low hp.2.2 (by omega)
  have CK : Hid (∀ W, Below w.heap.size w W → Calls Tryd.prog 21 #[.agg ((pk (tl s) 20).map (Value.int .u8)).toArray] W fun e w' => e = .returned (.string ⟨(ckS (pk (tl s) 20)).toArray⟩) ∧ Below W.heap.size W w') := fun W BW => rchk_any lP bP W (tb1.keep BW) (tb2.keep BW)
  obtain ⟨cs, ecs⟩ : ∃ cs : ByteArray, Hid (cs = ⟨(ckS (pk (tl s) 20)).toArray⟩) := ⟨_, rfl⟩
  rw [← ecs.out] at CK es
  have bs : (s.toList == cs.toList) = true := by rw [es]; exact beq_self_eq_true _
  have BS : Hid ((s.toList == cs.toList) = true) := bs
  clear es bP bs
  rw [← eN.out] at CK ⊢
  have MX : Hid ((smA (tl s) 40 && caA (tl s) 40) = true) := mx
  clear hs hp h40 mx tb1 tb2
  go_enter Tryd.func24, Tryd.ntmps24
  go_wp2_with fail
  refine calls_world (fun W => Below w.heap.size w W ∧ Cz W w.heap.size (List.replicate 20 (0 : Int)) ∧ Cz W (w.heap.size + 1) (List.replicate 20 (0 : Int))) (new2 rfl) ?_
  rintro W ⟨B, hR, hC⟩
  with_reducible refine (ht W).mono ?_
  rintro e1 w1 ⟨a, g, c, rfl, ha, hD, hb⟩
  replace B := B.trans (hb.mono B.size)
  replace hR := hR.keep hb
  replace hC := hC.keep hb
  have PKD : Calls Tryd.prog 43 #[.slice a (tl s).size c] w1 fun e w' => ∃ v, e = .returned v ∧ OwnB w1.heap.size w' v (pk (tl s) 20) ∧ Below w1.heap.size w1 w' := packed_any HT.out.1 (by decide) HT.out.2 ha w1 hD
  clear hb ha hD W
  go_wp2_with fail
  with_reducible refine PKD.mono ?_
  rintro e2 w2 ⟨v, rfl, ov, hb⟩
  replace B := B.trans (hb.mono B.size)
  replace hR := hR.keep hb
  replace hC := hC.keep hb
  clear hb PKD
  obtain ⟨gp, cap, rfl, cp⟩ := ov.slice (by rw [lP]; decide)
  rw [lP] at cp ⊢
  have o1 : w.heap.size ≤ w.heap.size + 1 := by omega
  have nb : w.heap.size + 1 ≠ w.heap.size := by omega
  clear ov
  have tC := hC.there
  rw [List.length_replicate] at tC
  have B3 := below_cellsH B o1 ((pk (tl s) 20).map (Value.int .u8)) 0
  have R3 := hR.other nb ((pk (tl s) 20).map (Value.int .u8))
  have C3 := hC.here (Z := pk (tl s) 20) (by rw [lP]; simp)
  rw [← eN.out] at B3 R3 C3
  clear hR hC B
  have TRF : Hid (∀ W3 : World, Cz W3 w.heap.size (List.replicate 20 (0 : Int)) → W3.there w.heap.size 0 N.toArray.size) := fun W3 hR => by rw [eN.out]; simpa [lP] using hR.there
  have lN : (Tryd.prog.info? 23).map (·.size) = some N.length := by rw [show N.length = 20 by rw [eN.out, List.length_map, lP]]; kernel_rfl
  have oN : N.toArray.all (·.oneCell') = true := by rw [eN.out]; exact one_u8 _
  have lN2 : (Tryd.prog.info? 23).map (·.size) = some N.toArray.size := by simpa using lN
  generalize w.heap.size + 1 = ba at *
  go_wp2_with ((refine wpList_copy_arr rfl _ _ rfl rfl rfl lP tC cp (fun x => ?_)); (rw [← eN.out]); (refine wpListH (fun W => Below w.heap.size w W ∧ W.there w.heap.size 0 N.toArray.size ∧ W.rangeAt ba 0 N ∧ Cz W w.heap.size (List.replicate 20 (0 : Int))) ⟨B3, TRF.out _ R3, C3, R3⟩ ?_); rintro W3 ⟨B, tr, rg, hR⟩)
  have HW : Hid (Below w.heap.size w W3 ∧ W3.there w.heap.size 0 N.toArray.size ∧ W3.rangeAt ba 0 N ∧ Cz W3 w.heap.size (List.replicate 20 (0 : Int))) := ⟨B, tr, rg, hR⟩
  clear B tr rg hR B3 R3 C3 tC cp TRF lP zc n40 ht
  go_loopg [8, 9, 10] 40 (fun kk sv gv iv wr => ∃ j : Nat, kk = 42 - j ∧ 2 ≤ j ∧ j ≤ 42 ∧ iv = .int .i64 (j : Int) ∧ sv = .bool (smA (tl s) (j - 2)) ∧ gv = .bool (caA (tl s) (j - 2)) ∧ wr = W3)
  case atStart => exact ⟨2, rfl, Nat.le_refl _, by decide, rfl, rfl, rfl, rfl⟩
  case round =>
    obtain ⟨j, hk, hj2, hj, rfl, rfl, rfl, ew⟩ := hrel
    subst ew
    have HK : Hid (gk = 42 - j ∧ 2 ≤ j ∧ j ≤ 42) := ⟨hk, hj2, hj⟩
    clear hk
    by_cases h8 : j = 42
    · subst h8
      have zs' : ¬ ((42 : Int) < (s.size : Int)) := by omega
      have mx := MX.out
      obtain ⟨p, ep⟩ : ∃ p, Hid (p = smA (tl s) (42 - 2)) := ⟨_, rfl⟩
      obtain ⟨q, eq⟩ : ∃ q, Hid (q = caA (tl s) (42 - 2)) := ⟨_, rfl⟩
      have mx2 : (p && q) = true := by rw [ep.out, eq.out]; exact mx
      rw [← ep.out, ← eq.out]
      have tr := HW.out.2.1
      have rg := HW.out.2.2.1
      have B := HW.out.1
      clear mx hj2 hj HK
      obtain ⟨rfl, rfl⟩ : p = true ∧ q = true := by simpa using mx2
      have bs := BS.out
      go_wp2_with ((with_reducible refine wpList_load_wantH (ty := 23) ba 0 N _ rg Tryd.underlying23 ?_ lN ?_ ?_ ?_); rfl; rfl; rfl; simp only [Act.put, List.setIfInBounds_toArray, List.set_cons_succ, List.set_cons_zero])
      with_reducible refine (CK.out _ B).mono ?_
      rintro e4 w4 ⟨rfl, hb4⟩
      replace B := B.trans (hb4.mono B.size)
      have hR := HW.out.2.2.2.keep hb4
      replace rg := range_keepV rg hb4
      have tr4 : w4.there w.heap.size 0 N.toArray.size := by
        have e : N.toArray.size = 20 := by rw [eN.out]; simp [pk_len]
        rw [e]; simpa using hR.there
      clear tr hb4 hR
      go_wp2_with first | (refine wpList_load_mid rfl 23 _ rfl ba 0 rfl N _ rg Tryd.underlying23 rfl lN ?_) | ((refine wpList_store_mid rfl 23 _ _ rfl w.heap.size 0 N.toArray rfl rfl tr4 lN2 oN ?_); (refine wpListH (fun W' => Below w.heap.size w W' ∧ W'.rangeAt w.heap.size 0 N) (laidH B (Nat.le_refl _) (by simpa using tr4)) ?_); rintro W' ⟨B', hD⟩)
      have ld := run_loadVar_mid (P := Tryd.prog) W' w.heap.size 0 23 N _ hD Tryd.underlying23 rfl lN
      refine bodyPost_ret (v := .tuple #[.agg N.toArray, .int .i64 0]) ?_ rfl ⟨rfl, B'⟩
      simp [results, Tryd.results24, asAddr, ld]
    · have hlt : j < 42 := by omega
      have hlt' : (j : Int) < 42 := by omega
      have h8s : j < s.size := by omega
      have eb := bt_get s j h8s
      have dg := HT.out.2 (j - 2) (by have := HT.out.1; omega)
      have bt2 : bt (tl s) (j - 2) = bt s j := by rw [tl_bt, Nat.sub_add_cancel hj2]
      rw [bt2] at dg
      have uc := dv_cases dg
      have S1 : smA (tl s) (j + 1 - 2) = (smA (tl s) (j - 2) || decide (97 ≤ bt s j)) := by
        rw [show j + 1 - 2 = (j - 2) + 1 by omega, smA, bt2]
        congr 1
        unfold smB
        by_cases k : 97 ≤ bt s j
        · rw [decide_eq_true k, decide_eq_true (show bt s j ≤ 102 by omega)]; rfl
        · rw [decide_eq_false k]; rfl
      have C1 : caA (tl s) (j + 1 - 2) = (caA (tl s) (j - 2) || (decide (65 ≤ bt s j) && decide (bt s j ≤ 70))) := by
        rw [show j + 1 - 2 = (j - 2) + 1 by omega, caA, bt2]; rfl
      have HS : Hid (smA (tl s) (j + 1 - 2) = (smA (tl s) (j - 2) || decide (97 ≤ bt s j)) ∧ caA (tl s) (j + 1 - 2) = (caA (tl s) (j - 2) || (decide (65 ≤ bt s j) && decide (bt s j ≤ 70)))) := ⟨S1, C1⟩
      generalize smA (tl s) (j - 2) = p at *
      generalize caA (tl s) (j - 2) = q at *
      generalize bt s j = c at *
      have UC : Hid ((48 ≤ c ∧ c ≤ 57) ∨ (97 ≤ c ∧ c ≤ 102) ∨ (65 ≤ c ∧ c ≤ 70)) := uc
      clear dg bt2 S1 C1 hj uc hj2
      by_cases k65 : 65 ≤ c
      · cases p <;> cases q
        all_goals
          go_wp2
          go_roundg (42 - (j + 1))
          case measure => have := HK.out; omega
          case rel => exact ⟨j + 1, rfl, by have := HK.out; omega, hlt, by go_num, by rw [HS.out.1]; simp, by rw [HS.out.2, decide_eq_true (show 65 ≤ c by omega)]; simp, rfl⟩
      · cases p <;> cases q
        all_goals
          go_wp2
          go_roundg (42 - (j + 1))
          case measure => have := HK.out; omega
          case rel => exact ⟨j + 1, rfl, by have := HK.out; omega, hlt, by go_num, by rw [HS.out.1]; simp, by rw [HS.out.2, decide_eq_false (show ¬ 65 ≤ c by omega)]; simp, rfl⟩
set_option maxRecDepth 100000 in
set_option maxHeartbeats 8000000 in
theorem rpa_wrong {s : ByteArray} (hs : s.size < 1073741824) (hp : okP s) (h40 : (tl s).size = 40) (mx : (smA (tl s) 40 && caA (tl s) 40) = true) (es : s ≠ ⟨(ckS (pk (tl s) 20)).toArray⟩) (w : World) (tb1 : Tab w 3 turnsN) (tb2 : Lns w 0 marksN) :
    Calls Tryd.prog 24 #[.string s] w fun e w' => e = .returned (.tuple #[.agg ((List.replicate 20 (0 : Int)).map (Value.int .u8)).toArray, .int .i64 84]) ∧ Below w.heap.size w w' := by
  have zs : s.size = 42 := by have := tl_size s; have := hp.1; omega
  have ht := rtail_lies hs hp
  have HT : Hid ((tl s).size = 2 * 20 ∧ dgs (tl s)) := ⟨by omega, hp.2.2⟩
  have lP := pk_len (tl s) 20
  have zc : ((tl s).size : Int) = 40 := by omega
  have n40 : (((tl s).size : Int) != 40) = false := by rw [zc]; rfl
  obtain ⟨N, eN⟩ : ∃ N, Hid (N = (pk (tl s) 20).map (Value.int .u8)) := ⟨_, rfl⟩
  have bP : ∀ i, 0 ≤ (pk (tl s) 20).getD i 0 ∧ (pk (tl s) 20).getD i 0 < 256 := pk_low hp.2.2 (by omega)
  have CK : Hid (∀ W, Below w.heap.size w W → Calls Tryd.prog 21 #[.agg ((pk (tl s) 20).map (Value.int .u8)).toArray] W fun e w' => e = .returned (.string ⟨(ckS (pk (tl s) 20)).toArray⟩) ∧ Below W.heap.size W w') := fun W BW => rchk_any lP bP W (tb1.keep BW) (tb2.keep BW)
  obtain ⟨cs, ecs⟩ : ∃ cs : ByteArray, Hid (cs = ⟨(ckS (pk (tl s) 20)).toArray⟩) := ⟨_, rfl⟩
  rw [← ecs.out] at CK es
  have bs : (s.toList == cs.toList) = false := beq_false_of_ne (fun x => es (text_inj x))
  have BS : Hid ((s.toList == cs.toList) = false) := bs
  clear es bP bs
  rw [← eN.out] at CK
  have MX : Hid ((smA (tl s) 40 && caA (tl s) 40) = true) := mx
  clear hs hp h40 mx tb1 tb2
  go_enter Tryd.func24, Tryd.ntmps24
  go_wp2_with fail
  refine calls_world (fun W => Below w.heap.size w W ∧ Cz W w.heap.size (List.replicate 20 (0 : Int)) ∧ Cz W (w.heap.size + 1) (List.replicate 20 (0 : Int))) (new2 rfl) ?_
  rintro W ⟨B, hR, hC⟩
  with_reducible refine (ht W).mono ?_
  rintro e1 w1 ⟨a, g, c, rfl, ha, hD, hb⟩
  replace B := B.trans (hb.mono B.size)
  replace hR := hR.keep hb
  replace hC := hC.keep hb
  have PKD : Calls Tryd.prog 43 #[.slice a (tl s).size c] w1 fun e w' => ∃ v, e = .returned v ∧ OwnB w1.heap.size w' v (pk (tl s) 20) ∧ Below w1.heap.size w1 w' := packed_any HT.out.1 (by decide) HT.out.2 ha w1 hD
  clear hb ha hD W
  go_wp2_with fail
  with_reducible refine PKD.mono ?_
  rintro e2 w2 ⟨v, rfl, ov, hb⟩
  replace B := B.trans (hb.mono B.size)
  replace hR := hR.keep hb
  replace hC := hC.keep hb
  clear hb PKD
  obtain ⟨gp, cap, rfl, cp⟩ := ov.slice (by rw [lP]; decide)
  rw [lP] at cp ⊢
  have o1 : w.heap.size ≤ w.heap.size + 1 := by omega
  have nb : w.heap.size + 1 ≠ w.heap.size := by omega
  clear ov
  have tC := hC.there
  rw [List.length_replicate] at tC
  have B3 := below_cellsH B o1 ((pk (tl s) 20).map (Value.int .u8)) 0
  have R3 := hR.other nb ((pk (tl s) 20).map (Value.int .u8))
  have C3 := hC.here (Z := pk (tl s) 20) (by rw [lP]; simp)
  rw [← eN.out] at B3 R3 C3
  clear hR hC B
  have TRF : Hid (∀ W3 : World, Cz W3 w.heap.size (List.replicate 20 (0 : Int)) → W3.there w.heap.size 0 N.toArray.size) := fun W3 hR => by rw [eN.out]; simpa [lP] using hR.there
  have lN : (Tryd.prog.info? 23).map (·.size) = some N.length := by rw [show N.length = 20 by rw [eN.out, List.length_map, lP]]; kernel_rfl
  have oN : N.toArray.all (·.oneCell') = true := by rw [eN.out]; exact one_u8 _
  have lN2 : (Tryd.prog.info? 23).map (·.size) = some N.toArray.size := by simpa using lN
  generalize w.heap.size + 1 = ba at *
  go_wp2_with ((refine wpList_copy_arr rfl _ _ rfl rfl rfl lP tC cp (fun x => ?_)); (rw [← eN.out]); (refine wpListH (fun W => Below w.heap.size w W ∧ W.there w.heap.size 0 N.toArray.size ∧ W.rangeAt ba 0 N ∧ Cz W w.heap.size (List.replicate 20 (0 : Int))) ⟨B3, TRF.out _ R3, C3, R3⟩ ?_); rintro W3 ⟨B, tr, rg, hR⟩)
  have HW : Hid (Below w.heap.size w W3 ∧ W3.there w.heap.size 0 N.toArray.size ∧ W3.rangeAt ba 0 N ∧ Cz W3 w.heap.size (List.replicate 20 (0 : Int))) := ⟨B, tr, rg, hR⟩
  clear B tr rg hR B3 R3 C3 tC cp TRF lP zc n40 ht
  go_loopg [8, 9, 10] 40 (fun kk sv gv iv wr => ∃ j : Nat, kk = 42 - j ∧ 2 ≤ j ∧ j ≤ 42 ∧ iv = .int .i64 (j : Int) ∧ sv = .bool (smA (tl s) (j - 2)) ∧ gv = .bool (caA (tl s) (j - 2)) ∧ wr = W3)
  case atStart => exact ⟨2, rfl, Nat.le_refl _, by decide, rfl, rfl, rfl, rfl⟩
  case round =>
    obtain ⟨j, hk, hj2, hj, rfl, rfl, rfl, ew⟩ := hrel
    subst ew
    have HK : Hid (gk = 42 - j ∧ 2 ≤ j ∧ j ≤ 42) := ⟨hk, hj2, hj⟩
    clear hk
    by_cases h8 : j = 42
    · subst h8
      have zs' : ¬ ((42 : Int) < (s.size : Int)) := by omega
      have mx := MX.out
      obtain ⟨p, ep⟩ : ∃ p, Hid (p = smA (tl s) (42 - 2)) := ⟨_, rfl⟩
      obtain ⟨q, eq⟩ : ∃ q, Hid (q = caA (tl s) (42 - 2)) := ⟨_, rfl⟩
      have mx2 : (p && q) = true := by rw [ep.out, eq.out]; exact mx
      rw [← ep.out, ← eq.out]
      have tr := HW.out.2.1
      have rg := HW.out.2.2.1
      have B := HW.out.1
      clear mx hj2 hj HK
      obtain ⟨rfl, rfl⟩ : p = true ∧ q = true := by simpa using mx2
      have bs := BS.out
      go_wp2_with ((with_reducible refine wpList_load_wantH (ty := 23) ba 0 N _ rg Tryd.underlying23 ?_ lN ?_ ?_ ?_); rfl; rfl; rfl; simp only [Act.put, List.setIfInBounds_toArray, List.set_cons_succ, List.set_cons_zero])
      with_reducible refine (CK.out _ B).mono ?_
      rintro e4 w4 ⟨rfl, hb4⟩
      replace B := B.trans (hb4.mono B.size)
      have hR := HW.out.2.2.2.keep hb4
      replace rg := range_keepV rg hb4
      obtain ⟨Dz, eD⟩ : ∃ D, Hid (D = (List.replicate 20 (0 : Int)).map (Value.int .u8)) := ⟨_, rfl⟩
      have tr4 : w4.there w.heap.size 0 ((List.replicate 20 (0 : Int)).map (Value.int .u8)).toArray.size := by simpa using hR.there
      clear tr hb4 hR rg
      go_wp2_with ((refine wpList_store_mid rfl 23 _ _ rfl w.heap.size 0 ((List.replicate 20 (0 : Int)).map (Value.int .u8)).toArray rfl rfl tr4 (by kernel_rfl) (one_u8 _) ?_); (refine wpListH (fun W' => Below w.heap.size w W' ∧ W'.rangeAt w.heap.size 0 Dz) (by rw [eD.out]; exact laidH B (Nat.le_refl _) (by simpa using tr4)) ?_); rintro W' ⟨B', hD⟩)
      have ld := run_loadVar_mid (P := Tryd.prog) W' w.heap.size 0 23 Dz _ hD Tryd.underlying23 rfl (by rw [eD.out]; kernel_rfl)
      refine bodyPost_ret (v := .tuple #[.agg Dz.toArray, .int .i64 84]) ?_ rfl ⟨by rw [eD.out], B'⟩
      simp [results, Tryd.results24, asAddr, ld]
    · have hlt : j < 42 := by omega
      have hlt' : (j : Int) < 42 := by omega
      have h8s : j < s.size := by omega
      have eb := bt_get s j h8s
      have dg := HT.out.2 (j - 2) (by have := HT.out.1; omega)
      have bt2 : bt (tl s) (j - 2) = bt s j := by rw [tl_bt, Nat.sub_add_cancel hj2]
      rw [bt2] at dg
      have uc := dv_cases dg
      have S1 : smA (tl s) (j + 1 - 2) = (smA (tl s) (j - 2) || decide (97 ≤ bt s j)) := by
        rw [show j + 1 - 2 = (j - 2) + 1 by omega, smA, bt2]
        congr 1
        unfold smB
        by_cases k : 97 ≤ bt s j
        · rw [decide_eq_true k, decide_eq_true (show bt s j ≤ 102 by omega)]; rfl
        · rw [decide_eq_false k]; rfl
      have C1 : caA (tl s) (j + 1 - 2) = (caA (tl s) (j - 2) || (decide (65 ≤ bt s j) && decide (bt s j ≤ 70))) := by
        rw [show j + 1 - 2 = (j - 2) + 1 by omega, caA, bt2]; rfl
      have HS : Hid (smA (tl s) (j + 1 - 2) = (smA (tl s) (j - 2) || decide (97 ≤ bt s j)) ∧ caA (tl s) (j + 1 - 2) = (caA (tl s) (j - 2) || (decide (65 ≤ bt s j) && decide (bt s j ≤ 70)))) := ⟨S1, C1⟩
      generalize smA (tl s) (j - 2) = p at *
      generalize caA (tl s) (j - 2) = q at *
      generalize bt s j = c at *
      have UC : Hid ((48 ≤ c ∧ c ≤ 57) ∨ (97 ≤ c ∧ c ≤ 102) ∨ (65 ≤ c ∧ c ≤ 70)) := uc
      clear dg bt2 S1 C1 hj uc hj2
      by_cases k65 : 65 ≤ c
      · cases p <;> cases q
        all_goals
          go_wp2
          go_roundg (42 - (j + 1))
          case measure => have := HK.out; omega
          case rel => exact ⟨j + 1, rfl, by have := HK.out; omega, hlt, by go_num, by rw [HS.out.1]; simp, by rw [HS.out.2, decide_eq_true (show 65 ≤ c by omega)]; simp, rfl⟩
      · cases p <;> cases q
        all_goals
          go_wp2
          go_roundg (42 - (j + 1))
          case measure => have := HK.out; omega
          case rel => exact ⟨j + 1, rfl, by have := HK.out; omega, hlt, by go_num, by rw [HS.out.1]; simp, by rw [HS.out.2, decide_eq_false (show ¬ 65 ≤ c by omega)]; simp, rfl⟩
/-- What ParseHash answers: the bytes, the error. -/
noncomputable def phX (s : ByteArray) : List Int := open Classical in if okP s ∧ (tl s).size = 64 then pk (tl s) 32 else List.replicate 32 0
noncomputable def phE (s : ByteArray) : Int := open Classical in if okP s ∧ (tl s).size = 64 then 0 else 80
theorem phX_len (s : ByteArray) : (phX s).length = 32 := by
  unfold phX
  split
  · exact pk_len _ _
  · simp
theorem ph_any {s : ByteArray} (hs : s.size < 1073741824) (w : World) : Calls Tryd.prog 25 #[.string s] w fun e w' => e = .returned (.tuple #[.agg ((phX s).map (Value.int .u8)).toArray, .int .i64 (phE s)]) ∧ Below w.heap.size w w' := by
  by_cases h : okP s ∧ (tl s).size = 64
  · have e1 : phX s = pk (tl s) 32 := by unfold phX; rw [if_pos h]
    have e2 : phE s = 0 := by unfold phE; rw [if_pos h]
    rw [e1, e2]; exact ph_ok hs h.1 h.2 w
  · have e1 : phX s = List.replicate 32 0 := by unfold phX; rw [if_neg h]
    have e2 : phE s = 80 := by unfold phE; rw [if_neg h]
    rw [e1, e2]; exact ph_no hs h w
theorem rph_any {s : ByteArray} (hs : s.size < 1073741824) (w : World) : Calls Tryd.prog 26 #[.string s] w fun e w' => e = .returned (.tuple #[.agg ((phX s).map (Value.int .u8)).toArray, .int .i64 (phE s)]) ∧ Below w.heap.size w w' := by
  by_cases h : okP s ∧ (tl s).size = 64
  · have e1 : phX s = pk (tl s) 32 := by unfold phX; rw [if_pos h]
    have e2 : phE s = 0 := by unfold phE; rw [if_pos h]
    rw [e1, e2]; exact rph_ok hs h.1 h.2 w
  · have e1 : phX s = List.replicate 32 0 := by unfold phX; rw [if_neg h]
    have e2 : phE s = 80 := by unfold phE; rw [if_neg h]
    rw [e1, e2]; exact rph_no hs h w
theorem rpa_any {s : ByteArray} (hs : s.size < 1073741824) (w : World) (tb1 : Tab w 3 turnsN) (tb2 : Lns w 0 marksN) :
    Calls Tryd.prog 24 #[.string s] w fun e w' => e = .returned (.tuple #[.agg ((paX s).map (Value.int .u8)).toArray, .int .i64 (paE s)]) ∧ Below w.heap.size w w' := by
  by_cases h : okP s ∧ (tl s).size = 40
  · by_cases k : (smA (tl s) 40 && caA (tl s) 40) = false ∨ s = ⟨(ckS (pk (tl s) 20)).toArray⟩
    · have e1 : paX s = pk (tl s) 20 := by unfold paX; rw [if_pos ⟨h.1, h.2, k⟩]
      have e2 : paE s = 0 := by unfold paE; rw [if_pos h, if_pos k]
      rw [e1, e2]
      by_cases mx : (smA (tl s) 40 && caA (tl s) 40) = false
      · exact rpa_plain hs h.1 h.2 mx w
      · exact rpa_right hs h.1 h.2 (by simpa using mx) (k.resolve_left mx) w tb1 tb2
    · have e1 : paX s = List.replicate 20 0 := by unfold paX; rw [if_neg (fun x => k x.2.2)]
      have e2 : paE s = 84 := by unfold paE; rw [if_pos h, if_neg k]
      rw [e1, e2]
      have mx : (smA (tl s) 40 && caA (tl s) 40) = true := by
        cases q : (smA (tl s) 40 && caA (tl s) 40)
        · exact absurd (.inl q) k
        · rfl
      exact rpa_wrong hs h.1 h.2 mx (fun x => k (.inr x)) w tb1 tb2
  · have e1 : paX s = List.replicate 20 0 := by unfold paX; rw [if_neg (fun x => h ⟨x.1, x.2.1⟩)]
    have e2 : paE s = 80 := by unfold paE; rw [if_neg h]
    rw [e1, e2]
    exact rpa_no hs h w
end Go.Proofs.YtidchaaahgnabaaDoor
