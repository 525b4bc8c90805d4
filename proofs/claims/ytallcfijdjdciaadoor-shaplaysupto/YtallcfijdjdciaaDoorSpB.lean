import Derived.Test.YtallcfijdjdciaaDoorSpA
/- Layer 3: the document's hasher; a hasher and the document's side by side. -/
namespace Go.Proofs.YtallcfijdjdciaaDoor
open Go.RowKit Go.Sort
set_option maxRecDepth 100000 in
set_option maxHeartbeats 4000000 in
theorem dwrite_any {a : Option Addr} {g p c B bd : Nat} {v : Value} {X Z : List (BitVec 8)} (hl : X.length + Z.length < 1073741824) (hc : Z.length ≤ c) (ha : At a g p Z) (w : World) (hB : B ≤ w.heap.size) (h : Dh w B bd v X) (hZ : Byo w g p Z) :
    Calls Tryd.prog 17 #[.pointer (some ⟨bd, 0, none⟩), .slice a Z.length c] w fun e w' => e = .returned (.tuple #[]) ∧ ∃ v', Dh w' B bd v' (X ++ Z) ∧ Chg (fun j => j = bd) w w' ∧ ∀ j, v'.ownBlock = some j → w.heap.size ≤ j := by
  have c1 := h.all
  obtain ⟨av, gv, cv, rfl, h1, h2, h3⟩ := own_arg h.own
  have PR : Hid (Prts (w.alloc (.cells #[.slice av X.length cv, .slice a Z.length c] 34)) w.heap.size 0 [⟨av, gv, 0, cv, X⟩, ⟨a, g, p, c, Z⟩]) := two_partsH (p := ⟨av, gv, 0, cv, X⟩) (q := ⟨a, g, p, c, Z⟩) _ ⟨h2, h1, h3⟩ ⟨ha, hc, hZ⟩
  have JN := rjoined_any (cp := 2) (PS := [⟨av, gv, 0, cv, X⟩, ⟨a, g, p, c, Z⟩]) (a := some ⟨w.heap.size, 0, none⟩) (by simpa [catX] using hl) (by simp) (.inr rfl) _ PR.out
  have ec : catX [⟨av, gv, 0, cv, X⟩, ⟨a, g, p, c, Z⟩] = X ++ Z := by simp [catX]
  rw [ec] at JN
  change Calls Tryd.prog _ #[.slice (some ⟨w.heap.size, 0, none⟩) 2 2] _ _ at JN
  have HD : Hid (Dh w B bd (.slice av X.length cv) X ∧ B ≤ w.heap.size) := ⟨h, hB⟩
  generalize X.length = xn at *
  generalize Z.length = zn at *
  have sz : (w.alloc (.cells #[.slice av xn cv, .slice a zn c] 34)).heap.size = w.heap.size + 1 := by simp
  have RES : Hid (∀ v' w3, Own (w.alloc (.cells #[.slice av xn cv, .slice a zn c] 34)).heap.size w3 v' (X ++ Z) → Below (w.alloc (.cells #[.slice av xn cv, .slice a zn c] 34)).heap.size (w.alloc (.cells #[.slice av xn cv, .slice a zn c] 34)) w3 →
      w3.cell? ⟨bd, 0, none⟩ = some (.slice av xn cv) ∧ w3.frozen? ⟨bd, 0, none⟩ = false ∧ Dh (w3.setCell ⟨bd, 0, none⟩ v') B bd v' (X ++ Z) ∧ Chg (fun j => j = bd) w (w3.setCell ⟨bd, 0, none⟩ v') ∧ ∀ j, v'.ownBlock = some j → w.heap.size ≤ j) := by
    intro v' w3 ho hb
    have B0 : Below w.heap.size w w3 := ((Below.refl _ _).alloc (Nat.le_refl _) _).trans (hb.mono (by simp))
    have lt := HD.out.1.lt
    have c3 : w3.cell? ⟨bd, 0, none⟩ = some (.slice av xn cv) := cell_keep B0 HD.out.1.all
    have f3 : w3.frozen? ⟨bd, 0, none⟩ = false := frozen_same (B0.block bd lt) HD.out.1.f0
    have nb : ∀ j, v'.ownBlock = some j → w.heap.size + 1 ≤ j ∧ j < w3.heap.size := fun j hj => by have := World.ownsRow.lt ho j hj; rw [sz] at this; exact this
    refine ⟨c3, f3, ⟨World.cell?_setCell_same' _ _ _ (by rw [c3]; rfl), by rw [World.frozen?_setCell]; exact f3, ?_, fun e => by have := (nb bd e).1; omega⟩, ?_, fun j hj => by have := (nb j hj).1; omega⟩
    · exact Own.base (own_same ho (fun j hj => setCell_other (fun e => by have := (nb j hj).1; omega) (nb j hj).2)) (by rw [sz]; have := HD.out.2; omega)
    · exact (Chg.of_below B0).trans (Chg.of_off ((Off.refl bd w3).setCell _)) (fun j hj => .inl hj)
  clear h hl hc ha hZ hB h1 h2 h3 PR ec sz
  go_enter Tryd.func17, Tryd.ntmps17
  go_wp2_with fail
  with_reducible refine JN.mono ?_
  rintro e1 w3 ⟨v', rfl, ho, hb⟩
  obtain ⟨a3, f3, dp3, ch3, n3⟩ := RES.out v' w3 ho hb
  obtain ⟨a', g', c', rfl, _, _, _⟩ := own_arg ho
  generalize (X ++ Z).length = q at *
  clear ho hb JN RES c1
  go_wp2
  simp [bodyPost, results, Tryd.results17, go_sem]
  exact ⟨_, dp3, ch3, n3⟩
set_option maxRecDepth 100000 in
theorem dreset_any {B bd : Nat} {v : Value} {X : List (BitVec 8)} (w : World) (h : Dh w B bd v X) :
    Calls Tryd.prog 20 #[.pointer (some ⟨bd, 0, none⟩)] w fun e w' => e = .returned (.tuple #[]) ∧ Dh w' B bd (.slice none 0 0) [] ∧ Chg (fun j => j = bd) w w' := by
  have c1 := h.all
  have f1 := h.f0
  have HR : Hid (Dh (w.setCell ⟨bd, 0, none⟩ (.slice none 0 0)) B bd (.slice none 0 0) [] ∧ Chg (fun j => j = bd) w (w.setCell ⟨bd, 0, none⟩ (.slice none 0 0))) :=
    ⟨⟨World.cell?_setCell_same' _ _ _ (by rw [c1]; rfl), by rw [World.frozen?_setCell]; exact f1, own_nil, fun e => by cases e⟩, Chg.of_off ((Off.refl bd w).setCell _)⟩
  clear h
  go_enter Tryd.func20, Tryd.ntmps20
  go_wp2
  simp [bodyPost, results, Tryd.results20, go_sem]
  exact HR.out
set_option maxRecDepth 100000 in
theorem dlen_any {B bd : Nat} {v : Value} {X : List (BitVec 8)} (w : World) (h : Dh w B bd v X) :
    Calls Tryd.prog 13 #[.pointer (some ⟨bd, 0, none⟩)] w fun e w' => e = .returned (.int .i64 (X.length : Int)) ∧ w' = w := by
  have c1 := h.all
  obtain ⟨av, gv, cv, rfl, _, _⟩ := own_arg h.own
  generalize X.length = n at *
  clear h
  go_enter Tryd.func13, Tryd.ntmps13
  go_wp2
  simp [bodyPost, results, Tryd.results13, go_sem]
set_option maxRecDepth 100000 in
set_option maxHeartbeats 4000000 in
theorem dcopy_any {B bd : Nat} {v : Value} {X : List (BitVec 8)} (hl : X.length < 1073741824) (w : World) (h : Dh w B bd v X) :
    Calls Tryd.prog 8 #[.pointer (some ⟨bd, 0, none⟩)] w fun e w' => ∃ b' v', e = .returned (.pointer (some ⟨b', 0, none⟩)) ∧ w.heap.size ≤ b' ∧ Dh w' w.heap.size b' v' X ∧ Below w.heap.size w w' := by
  have c1 := h.all
  obtain ⟨av, gv, cv, rfl, h1, h2, h3⟩ := own_arg h.own
  have PR : Hid (Prts (w.alloc (.cells #[.slice av X.length cv] 34)) w.heap.size 0 [⟨av, gv, 0, cv, X⟩]) := one_partH (p := ⟨av, gv, 0, cv, X⟩) _ ⟨h2, h1, h3⟩
  have JN := rjoined_any (cp := 1) (PS := [⟨av, gv, 0, cv, X⟩]) (a := some ⟨w.heap.size, 0, none⟩) (by simpa [catX] using hl) (by simp) (.inr rfl) _ PR.out
  have ec : catX [⟨av, gv, 0, cv, X⟩] = X := by simp [catX]
  rw [ec] at JN
  change Calls Tryd.prog _ #[.slice (some ⟨w.heap.size, 0, none⟩) 1 1] _ _ at JN
  have RES : Hid (∀ v' w3, Own (w.alloc (.cells #[.slice av X.length cv] 34)).heap.size w3 v' X → Below (w.alloc (.cells #[.slice av X.length cv] 34)).heap.size (w.alloc (.cells #[.slice av X.length cv] 34)) w3 →
      w.heap.size ≤ w3.heap.size ∧ Below w.heap.size w w3 ∧ Own w.heap.size w3 v' X) := by
    intro v' w3 ho hb
    have B0 : Below w.heap.size w w3 := ((Below.refl _ _).alloc (Nat.le_refl _) _).trans (hb.mono (by simp))
    exact ⟨B0.size, B0, ho.base (by simp)⟩
  generalize hx : X.length = xn at *
  clear h hl h1 h2 h3 PR ec
  go_enter Tryd.func8, Tryd.ntmps8
  go_wp2_with fail
  with_reducible refine JN.mono ?_
  rintro e1 w3 ⟨v', rfl, ho, hb⟩
  obtain ⟨s3, b3, o3⟩ := RES.out v' w3 ho hb
  obtain ⟨a', g', c', rfl, _, _, _⟩ := own_arg ho
  have HF : Hid (w.heap.size ≤ w3.heap.size ∧ Below w.heap.size w w3 ∧ Own w.heap.size w3 (.slice a' xn c') X) := ⟨s3, b3, by rw [← hx]; exact o3⟩
  rw [hx]
  clear ho hb JN RES c1 s3 b3 o3 hx
  go_wp2
  simp [bodyPost, results, Tryd.results8, go_sem]
  exact ⟨HF.out.1, ⟨_, Dh.new _ HF.out.2.2⟩, HF.out.2.1.alloc HF.out.1 _⟩
set_option maxRecDepth 100000 in
theorem dnew_any (w : World) : Calls Tryd.prog 5 #[] w fun e w' => e = .returned (.pointer (some ⟨w.heap.size, 0, none⟩)) ∧ Dh w' w.heap.size w.heap.size (.slice none 0 0) [] ∧ Below w.heap.size w w' := by
  go_enter Tryd.func5, Tryd.ntmps5
  go_wp2
  simp [bodyPost, results, Tryd.results5, go_sem]
  exact ⟨Dh.new _ own_nil, (Below.refl _ _).alloc (Nat.le_refl _) _⟩
theorem wpListK {P : Program} {ops : Array Oper} {Q : Exit → Act → World → Prop} {rest : List Oper} {a : Act} {w : World} (S : World → Prop) (h : S w) (k : ∀ W, S W → wpList P ops Q rest a W) : wpList P ops Q rest a w := k w h
set_option maxRecDepth 100000 in
set_option maxHeartbeats 4000000 in
theorem dsum_any {B bd : Nat} {v : Value} {X : List (BitVec 8)} (hl : X.length < 1073740000) (w : World) (h : Dh w B bd v X) :
    Calls Tryd.prog 11 #[.pointer (some ⟨bd, 0, none⟩)] w fun e w' => e = .returned (.agg (byts (shaL X)).toArray) ∧ Below w.heap.size w w' := by
  have c1 := h.all
  obtain ⟨av, gv, cv, rfl, h1, h2, h3⟩ := own_arg h.own
  have DG : Hid (∀ W, Below w.heap.size w W → Calls Tryd.prog 22 #[.slice av X.length cv] W fun e w' => e = .returned (.agg (byts (shaL X)).toArray) ∧ Below W.heap.size W w') := fun W B => rdig_any hl h1 h2 W (h3.keep B)
  have zero := zeros32.symm
  have LM : Hid (32 = (byts (shaL X)).length) := by rw [byts_len, shaL_len]; exact rfl
  have LZ' : (byts (List.replicate 32 0)).length = 32 := by rw [byts_len]; simp
  have on := one_byts (shaL X)
  have HB : Hid (∀ W, Below w.heap.size w W → W.cell? ⟨bd, 0, none⟩ = some (.slice av X.length cv)) := fun W B => by rw [B.cell (p := ⟨bd, 0, none⟩) h.lt]; exact c1
  clear h h1 h2 h3 c1 hl
  generalize X.length = n at *
  obtain ⟨M, eM⟩ : ∃ M, Hid (M = byts (shaL X)) := ⟨_, rfl⟩
  obtain ⟨Z, eZ⟩ : ∃ Z, Hid (Z = byts (List.replicate 32 0)) := ⟨_, rfl⟩
  rw [← eM.out] at LM on DG ⊢
  rw [← eZ.out] at zero LZ'
  have iz : (Tryd.prog.info? 40).map (·.size) = some M.length := by rw [← LM.out]; kernel_rfl
  have zs : Z.toArray.size = M.length := by rw [List.size_toArray, LZ', ← LM.out]
  have i2 : (Tryd.prog.info? 40).map (·.size) = some M.toArray.size := by rw [List.size_toArray]; exact iz
  clear LZ'
  go_enter Tryd.func11, Tryd.ntmps11
  have B0 : Below w.heap.size w (w.alloc (.cells Z.toArray 40)) := (Below.refl _ _).alloc (Nat.le_refl _) _
  have c1 := HB.out _ B0
  have T0 : Hid ((w.alloc (.cells Z.toArray 40)).there w.heap.size 0 M.toArray.size) := by rw [List.size_toArray]; exact there_newK zs.symm
  go_wp2_with fail
  with_reducible refine (DG.out _ B0).mono ?_
  rintro e1 w1 ⟨rfl, hb1⟩
  have B1 : Below w.heap.size w w1 := B0.trans (hb1.mono B0.size)
  have T1 : w1.there w.heap.size 0 M.toArray.size := fun j hj => by
    obtain ⟨x, y⟩ := T0.out j hj
    have lt : w.heap.size < (w.alloc (.cells Z.toArray 40)).heap.size := by simp
    exact ⟨by rw [hb1.cell (p := ⟨w.heap.size, 0 + j, none⟩) lt]; exact x, by rw [hb1.frozen (p := ⟨w.heap.size, 0 + j, none⟩) lt]; exact y⟩
  clear hb1 T0 c1 B0
  go_wp2_with ((refine wpList_store_mid rfl 40 _ _ rfl w.heap.size 0 M.toArray rfl rfl T1 i2 on ?_); (refine wpListK (fun W' => Below w.heap.size w W' ∧ W'.rangeAt w.heap.size 0 M) ⟨B1.trans ((Off.cells0 (b := w.heap.size) (w := w1) M).below B1.size (Nat.le_refl _)), World.rangeAt_setCells_same _ _ _ _ (by simpa using T1)⟩ ?_); rintro W' ⟨B', hD⟩; simp only [Act.put])
  have ld := run_loadVar_mid (P := Tryd.prog) W' w.heap.size 0 40 M _ hD Tryd.underlying40 rfl iz
  refine bodyPost_ret (v := .agg M.toArray) ?_ rfl ⟨rfl, B'⟩
  simp [results, Tryd.results11, asAddr, ld]
end Go.Proofs.YtallcfijdjdciaaDoor
