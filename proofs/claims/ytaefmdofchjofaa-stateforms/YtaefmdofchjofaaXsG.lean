import Derived.Test.YtaefmdofchjofaaXsC
/- Layer 21: Parse of the document. -/
namespace Go.Proofs.Ytaefmdofchjofaa
open Go.RowKit Go.Sort
set_option maxRecDepth 100000 in
set_option maxHeartbeats 8000000 in
theorem rparse21_far {A : List Int} {a : Option Addr} {c : Nat} (hl : 16777216 < A.length) (w : World) :
    Calls Try.prog 8 #[.slice a A.length c] w fun e w' => e = .returned (.tuple #[.agg acZ.toArray, .int .i64 2]) ∧ Below w.heap.size w w' := by
  have h1 : (16777216 : Int) < (A.length : Int) := by omega
  generalize A.length = m at *
  have zh := acz_zero
  have bz := built_acZ
  have on : acZ.toArray.all (·.oneCell') = true := acM_one z32_one z32_one
  have lz := acZ_len
  generalize acZ = M at *
  have iz : (Try.prog.info? 28).map (·.size) = some M.toArray.size := by rw [List.size_toArray, lz]; exact ac_size
  have iz' : (Try.prog.info? 28).map (·.size) = some M.length := by rw [lz]; exact ac_size
  have B0 : Below w.heap.size w (w.alloc (.cells M.toArray 28)) := (Below.refl _ _).alloc (Nat.le_refl _) _
  have T0 : (w.alloc (.cells M.toArray 28)).there w.heap.size 0 M.toArray.size := there_new rfl rfl
  have LM : Hid (M.length = 69) := lz
  clear lz
  clear LM
  go_enter Try.func8, Try.ntmps8
  go_wp2_with ((refine wpList_store_mid rfl 28 _ _ rfl w.heap.size 0 M.toArray rfl rfl T0 iz on ?_); (refine wpList_worldA (fun W' => Below w.heap.size w W' ∧ W'.rangeAt w.heap.size 0 M) (laid_in B0 (Nat.le_refl _) (by simpa using T0)) ?_); rintro W' ⟨B', hD⟩)
  have ld := run_loadVar_mid (P := Try.prog) W' w.heap.size 0 28 M _ hD Try.underlying28 rfl iz'
  refine bodyPost_ret (v := .tuple #[.agg M.toArray, .int .i64 2]) ?_ rfl ⟨rfl, B'⟩
  simp [results, Try.results8, asAddr, ld]
set_option maxRecDepth 100000 in
set_option maxHeartbeats 8000000 in
theorem rparse21_bad {A : List Int} {a : Option Addr} {b o c : Nat} {de : Int} {l : Bool} {X : List Int} {ts : List Tr} (hA : Byts A) (hc : A.length ≤ c) (hnc : a = none → c = 0) (ha : Az a b o A) (w : World) (hz : Bz w b o A) (hl : A.length ≤ 16777216) (hd : decP A = (de, .mk l X ts)) (hn : ¬ (de = 0 ∧ l = true ∧ ts.length = 4)) :
    Calls Try.prog 8 #[.slice a A.length c] w fun e w' => e = .returned (.tuple #[.agg acZ.toArray, .int .i64 214]) ∧ Below w.heap.size w w' := by
  have h1 : ¬ ((16777216 : Int) < (A.length : Int)) := by omega
  have DP : Hid (∀ W, Below w.heap.size w W → Calls Try.prog 28 #[.slice a A.length c] W fun e w' => ∃ d q, e = .returned (.tuple #[.agg #[.bool l, d, q], .int .i64 de]) ∧ Ot w' (.mk l X ts) (fun k => W.heap.size ≤ k) d q ∧ Below W.heap.size W w') := fun W B => by
    have h := rDecode_any hA hc hnc ha W (hz.keep B)
    rw [hd] at h
    exact h
  clear hd
  clear hA hc hnc ha hz hl
  generalize A.length = m at *
  have zh := acz_zero
  have bz := built_acZ
  have on : acZ.toArray.all (·.oneCell') = true := acM_one z32_one z32_one
  have lz := acZ_len
  generalize acZ = M at *
  have iz : (Try.prog.info? 28).map (·.size) = some M.toArray.size := by rw [List.size_toArray, lz]; exact ac_size
  have iz' : (Try.prog.info? 28).map (·.size) = some M.length := by rw [lz]; exact ac_size
  have B0 : Below w.heap.size w (w.alloc (.cells M.toArray 28)) := (Below.refl _ _).alloc (Nat.le_refl _) _
  have T0 : (w.alloc (.cells M.toArray 28)).there w.heap.size 0 M.toArray.size := there_new rfl rfl
  have LM : Hid (M.length = 69) := lz
  clear lz
  go_enter Try.func8, Try.ntmps8
  go_wp2_with fail
  with_reducible refine (DP.out _ B0).mono ?_
  rintro e w1 ⟨d, q, rfl, O1, hb⟩
  have T1 := there_keepS T0 (by simp) hb
  have B1 := B0.trans (hb.mono B0.size)
  have lt1 : w.heap.size < w1.heap.size := Nat.lt_of_lt_of_le (by simp) hb.size
  clear hb T0 B0 DP
  obtain ⟨qa, qb, qc, eq, _, hq, hI⟩ := (Ot.get O1).2.2.its
  obtain ⟨da, dn, dc, _, _, _, ed, _⟩ := (Ot.it _ O1).slices
  replace eq : q = .slice qa ts.length qc := eq
  replace hq : ts = [] ∨ qa = some ⟨qb, 0, none⟩ := hq
  replace hI : Its w1 qb 0 ts := hI
  subst eq ed
  clear O1
  clear hI hq LM
  have T2 := fun (o : Obj) => there_keepS T1 lt1 ((Below.refl _ _).alloc (Nat.le_refl _) o)
  have B2 := fun (o : Obj) => B1.alloc B1.size o
  clear T1 B1
  by_cases z1 : de = 0
  · subst z1
    cases l
    · clear hn
      go_wp2_with ((refine wpList_store_mid rfl 28 _ _ rfl w.heap.size 0 M.toArray rfl rfl (T2 _) iz on ?_); (refine wpList_worldA (fun W' => Below w.heap.size w W' ∧ W'.rangeAt w.heap.size 0 M) (laid_in (B2 _) (Nat.le_refl _) (by simpa using (T2 _))) ?_); rintro W' ⟨B', hD⟩)
      have ld := run_loadVar_mid (P := Try.prog) W' w.heap.size 0 28 M _ hD Try.underlying28 rfl iz'
      refine bodyPost_ret (v := .tuple #[.agg M.toArray, .int .i64 214]) ?_ rfl ⟨rfl, B'⟩
      simp [results, Try.results8, asAddr, ld]
    · have z3 : ((ts.length : Int) == 4) = false := by simpa using fun e => hn ⟨rfl, rfl, by omega⟩
      clear hn
      generalize ts.length = n at *
      go_wp2_with ((refine wpList_store_mid rfl 28 _ _ rfl w.heap.size 0 M.toArray rfl rfl (T2 _) iz on ?_); (refine wpList_worldA (fun W' => Below w.heap.size w W' ∧ W'.rangeAt w.heap.size 0 M) (laid_in (B2 _) (Nat.le_refl _) (by simpa using (T2 _))) ?_); rintro W' ⟨B', hD⟩)
      have ld := run_loadVar_mid (P := Try.prog) W' w.heap.size 0 28 M _ hD Try.underlying28 rfl iz'
      refine bodyPost_ret (v := .tuple #[.agg M.toArray, .int .i64 214]) ?_ rfl ⟨rfl, B'⟩
      simp [results, Try.results8, asAddr, ld]
  · have z2 : (de == 0) = false := by simpa using z1
    clear hn
    generalize ts.length = n at *
    go_wp2_with ((refine wpList_store_mid rfl 28 _ _ rfl w.heap.size 0 M.toArray rfl rfl (T2 _) iz on ?_); (refine wpList_worldA (fun W' => Below w.heap.size w W' ∧ W'.rangeAt w.heap.size 0 M) (laid_in (B2 _) (Nat.le_refl _) (by simpa using (T2 _))) ?_); rintro W' ⟨B', hD⟩)
    have ld := run_loadVar_mid (P := Try.prog) W' w.heap.size 0 28 M _ hD Try.underlying28 rfl iz'
    refine bodyPost_ret (v := .tuple #[.agg M.toArray, .int .i64 214]) ?_ rfl ⟨rfl, B'⟩
    simp [results, Try.results8, asAddr, ld]
theorem all_mem21 {L : List Value} (h : L.toArray.all (·.oneCell') = true) : ∀ v ∈ L, v.oneCell' = true := fun v hv => by
  have := Array.all_eq_true_iff_forall_mem.1 h v (by simpa using hv)
  exact this
theorem wpList_build_ac {ops : Array Oper} {rest : List Oper} {o : Oper} {a : Act} {Q : Exit → Act → World → Prop} {w : World} {x y z u : Operand} {n b : Int} {S C : List Value} (hgd : o.guard = none)
    (ho : o.op = .build 28 #[(0, x), (1, y), (2, z), (3, u)]) (hx : a.eval x = .int .u64 n) (hy : a.eval y = .agg #[.int .u64 (l0 b), .int .u64 (l1 b), .int .u64 (l2 b), .int .u64 (l3 b)]) (hz : a.eval z = .agg S.toArray) (hu : a.eval u = .agg C.toArray) (hS : S.length = 32) (hC : C.length = 32)
    (h : wpList Try.prog ops Q rest (a.put o.dst (.agg (acM n b S C).toArray)) w) : wpList Try.prog ops Q (o :: rest) a w := by
  refine wpList_plain hgd fun K hK => ?_
  unfold Oper.wp
  rw [yields_built hS hC ho hx hy hz hu]
  exact hK _ _ h
theorem haM_len (t : Tr) : (haM t).length = 32 := by
  unfold haM
  split
  · rename_i h; rw [u8L, List.length_map]; exact fi_len h
  · exact z32_len
theorem haM_one (t : Tr) : (haM t).toArray.all (·.oneCell') = true := by
  unfold haM
  split
  · exact all_oneCell_toArray (u8L_one _)
  · exact all_oneCell_toArray z32_one
/-- What holds all along. -/
structure Qs (w W : World) (M : List Value) (bi : Nat) (da : Option Addr) (dn dc qb qc : Nat) (t0 t1 t2 t3 : Tr) : Prop where
  B : Below w.heap.size w W
  T : W.there w.heap.size 0 M.toArray.size
  lt : w.heap.size < W.heap.size
  X : Bx W bi true (.slice da dn dc) (.slice (some ⟨qb, 0, none⟩) 4 qc)
  I : Its W qb 0 [t0, t1, t2, t3]
theorem Its.keepS {W W' : World} {b o : Nat} {ts : List Tr} (h : Its W b o ts) (hb : Below W.heap.size W W') : Its W' b o ts := Its.of fun i hi => by
  obtain ⟨d, q, e1, e2⟩ := h.at i hi
  exact ⟨d, q, rangeT_keep e1 hb, It.keep hb _ e2⟩
theorem Qs.keep {w W W' : World} {M : List Value} {bi : Nat} {da : Option Addr} {dn dc qb qc : Nat} {t0 t1 t2 t3 : Tr} (h : Qs w W M bi da dn dc qb qc t0 t1 t2 t3) (b : Below W.heap.size W W') : Qs w W' M bi da dn dc qb qc t0 t1 t2 t3 :=
  ⟨h.B.trans (b.mono h.B.size), there_keepS h.T h.lt b, Nat.lt_of_lt_of_le h.lt b.size, h.X.keep b, h.I.keepS b⟩
/-- The i-th item's cells. -/
theorem its_cell {W : World} {qb : Nat} {ts : List Tr} (h : Its W qb 0 ts) (i k : Nat) (hi : i < ts.length) (hk : k = i * 3) : ∃ d q, (W.cell? ⟨qb, k, none⟩ = some (.bool (ts.getD i zT).l) ∧ W.cell? ⟨qb, k + 1, none⟩ = some d ∧ W.cell? ⟨qb, k + 2, none⟩ = some q) ∧ It W (ts.getD i zT) d q := by
  obtain ⟨d, q, r, hI⟩ := h.at i hi
  rw [Nat.zero_add, ← hk] at r
  exact ⟨d, q, ⟨by simpa using r 0 _ rfl, by simpa using r 1 _ rfl, by simpa using r 2 _ rfl⟩, hI⟩
set_option maxRecDepth 100000 in
set_option maxHeartbeats 8000000 in
theorem rparse21_four {A : List Int} {a : Option Addr} {b o c : Nat} {X : List Int} {t0 t1 t2 t3 : Tr} (hA : Byts A) (hc : A.length ≤ c) (hnc : a = none → c = 0) (ha : Az a b o A) (w : World) (hz : Bz w b o A) (hl : A.length ≤ 16777216) (hd : decP A = (0, .mk true X [t0, t1, t2, t3])) :
    Calls Try.prog 8 #[.slice a A.length c] w fun e w' => e = .returned (.tuple #[.agg (open Classical in if (nuE t0 8 = 0 ∧ nuE t1 32 = 0 ∧ fiE t2 = 0 ∧ fiE t3 = 0) then acM (l0 (nuV t0 8)) (nuV t1 32) (u8L t2.X) (u8L t3.X) else acZ).toArray, .int .i64 (open Classical in if (nuE t0 8 = 0 ∧ nuE t1 32 = 0 ∧ fiE t2 = 0 ∧ fiE t3 = 0) then 0 else 214)]) ∧ Below w.heap.size w w' := by
  have h1 : ¬ ((16777216 : Int) < (A.length : Int)) := by omega
  have DP : Hid (∀ W, Below w.heap.size w W → Calls Try.prog 28 #[.slice a A.length c] W fun e w' => ∃ d q, e = .returned (.tuple #[.agg #[.bool true, d, q], .int .i64 0]) ∧ Ot w' (.mk true X [t0, t1, t2, t3]) (fun k => W.heap.size ≤ k) d q ∧ Below W.heap.size W w') := fun W B => by
    have h := rDecode_any hA hc hnc ha W (hz.keep B)
    rw [hd] at h
    exact h
  obtain ⟨⟨y0, y1, _, _⟩, n0, n1, n2, n3⟩ := four_items hA hd
  have G0 : Hid (∀ W d q, It W t0 d q → Calls Try.prog 29 #[.agg #[.bool t0.l, d, q]] W fun e w' => e = .returned (.tuple #[.int .u64 (l0 (nuV t0 8)), .int .i64 (nuE t0 8)]) ∧ Below W.heap.size W w') := fun W d q h => rsmall_it y0 W h
  have G1 : Hid (∀ W d q, It W t1 d q → Calls Try.prog 30 #[.agg #[.bool t1.l, d, q]] W fun e w' => e = .returned (.tuple #[.agg #[.int .u64 (l0 (nuV t1 32)), .int .u64 (l1 (nuV t1 32)), .int .u64 (l2 (nuV t1 32)), .int .u64 (l3 (nuV t1 32))], .int .i64 (nuE t1 32)]) ∧ Below W.heap.size W w') := fun W d q h => rnumber_it y1 W h
  have G2 : Hid (∀ W d q, It W t2 d q → Calls Try.prog 31 #[.agg #[.bool t2.l, d, q]] W fun e w' => e = .returned (.tuple #[.agg (haM t2).toArray, .bool (decide (fiE t2 = 0))]) ∧ Below W.heap.size W w') := fun W d q h => rhash_it n2 W h
  have G3 : Hid (∀ W d q, It W t3 d q → Calls Try.prog 31 #[.agg #[.bool t3.l, d, q]] W fun e w' => e = .returned (.tuple #[.agg (haM t3).toArray, .bool (decide (fiE t3 = 0))]) ∧ Below W.heap.size W w') := fun W d q h => rhash_it n3 W h
  have hM2 := haM_len t2
  have hM3 := haM_len t3
  have hO2 := haM_one t2
  have hO3 := haM_one t3
  have eM2 : fiE t2 = 0 → haM t2 = u8L t2.X := fun e => by unfold haM; rw [if_pos e]
  have eM3 : fiE t3 = 0 → haM t3 = u8L t3.X := fun e => by unfold haM; rw [if_pos e]
  have LH : Hid ((haM t2).length = 32 ∧ (haM t3).length = 32 ∧ (fiE t2 = 0 → haM t2 = u8L t2.X) ∧ (fiE t3 = 0 → haM t3 = u8L t3.X)) := ⟨hM2, hM3, eM2, eM3⟩
  have iz2 : (Try.prog.info? 26).map (·.size) = some (haM t2).toArray.size := by rw [List.size_toArray, hM2]; exact ha_size
  have iz3 : (Try.prog.info? 26).map (·.size) = some (haM t3).toArray.size := by rw [List.size_toArray, hM3]; exact ha_size
  have nz2 : z32.toArray.size = (haM t2).toArray.size := by rw [List.size_toArray, List.size_toArray, hM2, z32_len]
  have nz3 : z32.toArray.size = (haM t3).toArray.size := by rw [List.size_toArray, List.size_toArray, hM3, z32_len]
  have zh2 := z32_zero
  clear hM2 hM3 eM2 eM3
  generalize haM t2 = H2 at *
  generalize haM t3 = H3 at *
  generalize z32 = Z at *
  clear hd y0 y1 n0 n1 n2 n3
  clear hA hc hnc ha hz hl
  generalize A.length = m at *
  have zh := acz_zero
  have bz := built_acZ
  have on : acZ.toArray.all (·.oneCell') = true := acM_one z32_one z32_one
  have lz := acZ_len
  generalize acZ = M at *
  have iz : (Try.prog.info? 28).map (·.size) = some M.toArray.size := by rw [List.size_toArray, lz]; exact ac_size
  have iz' : (Try.prog.info? 28).map (·.size) = some M.length := by rw [lz]; exact ac_size
  have B0 : Below w.heap.size w (w.alloc (.cells M.toArray 28)) := (Below.refl _ _).alloc (Nat.le_refl _) _
  have T0 : (w.alloc (.cells M.toArray 28)).there w.heap.size 0 M.toArray.size := there_new rfl rfl
  have LM : Hid (M.length = 69) := lz
  clear lz
  obtain ⟨R, hR⟩ : ∃ R, R = (open Classical in if (nuE t0 8 = 0 ∧ nuE t1 32 = 0 ∧ fiE t2 = 0 ∧ fiE t3 = 0) then acM (l0 (nuV t0 8)) (nuV t1 32) (u8L t2.X) (u8L t3.X) else M) := ⟨_, rfl⟩
  obtain ⟨E, hE⟩ : ∃ E : Int, E = (open Classical in if (nuE t0 8 = 0 ∧ nuE t1 32 = 0 ∧ fiE t2 = 0 ∧ fiE t3 = 0) then 0 else 214) := ⟨_, rfl⟩
  rw [← hR, ← hE]
  have HR : Hid (R = (open Classical in if (nuE t0 8 = 0 ∧ nuE t1 32 = 0 ∧ fiE t2 = 0 ∧ fiE t3 = 0) then acM (l0 (nuV t0 8)) (nuV t1 32) (u8L t2.X) (u8L t3.X) else M) ∧ E = (open Classical in if (nuE t0 8 = 0 ∧ nuE t1 32 = 0 ∧ fiE t2 = 0 ∧ fiE t3 = 0) then 0 else 214)) := ⟨hR, hE⟩
  clear hR hE
  generalize nuV t0 8 = v0 at *
  generalize nuE t0 8 = e0 at *
  generalize nuV t1 32 = v1 at *
  generalize nuE t1 32 = e1 at *
  go_enter Try.func8, Try.ntmps8
  go_wp2_with fail
  with_reducible refine (DP.out _ B0).mono ?_
  rintro e w1 ⟨d, q, rfl, O1, hb⟩
  have T1 := there_keepS T0 (by simp) hb
  have B1 := B0.trans (hb.mono B0.size)
  have lt1 : w.heap.size < w1.heap.size := Nat.lt_of_lt_of_le (by simp) hb.size
  clear hb T0 B0 DP
  obtain ⟨qa, qb, qc, eq, _, hq, hI⟩ := (Ot.get O1).2.2.its
  obtain ⟨da, dn, dc, _, _, _, ed, _⟩ := (Ot.it _ O1).slices
  replace eq : q = .slice qa 4 qc := eq
  replace hq : [t0, t1, t2, t3] = [] ∨ qa = some ⟨qb, 0, none⟩ := hq
  replace hI : Its w1 qb 0 [t0, t1, t2, t3] := hI
  subst eq ed
  clear O1
  obtain rfl : qa = some ⟨qb, 0, none⟩ := hq.resolve_left (by simp)
  have HQ : Qs w (w1.alloc (.cells #[.bool true, .slice da dn dc, .slice (some ⟨qb, 0, none⟩) 4 qc] 48)) M w1.heap.size da dn dc qb qc t0 t1 t2 t3 :=
    ⟨B1.alloc B1.size _, there_keepS T1 lt1 ((Below.refl _ _).alloc (Nat.le_refl _) _), by simp; omega, ⟨by simp [go_sem], by simp [go_sem], by simp [go_sem]⟩, hI.keepS ((Below.refl _ _).alloc (Nat.le_refl _) _)⟩
  clear B1 T1 lt1 hI hq
  obtain ⟨d0, q0, ⟨g00, g01, g02⟩, I0⟩ := its_cell (HQ).I 0 0 (by simp) rfl
  replace I0 : It (w1.alloc (.cells #[.bool true, .slice da dn dc, .slice (some ⟨qb, 0, none⟩) 4 qc] 48)) t0 d0 q0 := I0
  replace g00 : ((w1.alloc (.cells #[.bool true, .slice da dn dc, .slice (some ⟨qb, 0, none⟩) 4 qc] 48)) : World).cell? ⟨qb, 0, none⟩ = some (.bool t0.l) := g00
  simp only [Nat.reduceAdd] at g01 g02
  obtain ⟨x0, x1, x2⟩ := (HQ).X
  obtain ⟨a0, m0, c0, a'0, m'0, c'0, e01, e02⟩ := I0.slices
  subst e01 e02
  go_wp2_with fail
  refine calls_world (fun V => Qs w V M w1.heap.size da dn dc qb qc t0 t1 t2 t3 ∧ It V t0 (.slice a0 m0 c0) (.slice a'0 m'0 c'0)) ⟨HQ, I0⟩ ?_
  clear HQ I0 g00 g01 g02 x0 x1 x2
  rintro V1 ⟨HQ, I0⟩
  generalize w1.heap.size = bi at *
  with_reducible refine (G0.out _ _ _ I0).mono ?_
  rintro e w2 ⟨rfl, hb⟩
  replace HQ := HQ.keep hb
  clear hb G0 I0 V1
  obtain ⟨d1, q1, ⟨g10, g11, g12⟩, I1⟩ := its_cell (HQ).I 1 3 (by simp) rfl
  replace I1 : It w2 t1 d1 q1 := I1
  replace g10 : (w2 : World).cell? ⟨qb, 3, none⟩ = some (.bool t1.l) := g10
  simp only [Nat.reduceAdd] at g11 g12
  obtain ⟨x0, x1, x2⟩ := (HQ).X
  obtain ⟨a1, m1, c1, a'1, m'1, c'1, e11, e12⟩ := I1.slices
  subst e11 e12
  go_wp2_with fail
  with_reducible refine (G1.out _ _ _ I1).mono ?_
  rintro e w3 ⟨rfl, hb⟩
  replace HQ := HQ.keep hb
  clear hb G1 I1 g10 g11 g12 x0 x1 x2
  replace HQ := HQ.keep ((Below.refl _ _).alloc (Nat.le_refl _) (.cells #[.int .u64 (l0 v1), .int .u64 (l1 v1), .int .u64 (l2 v1), .int .u64 (l3 v1)] 24))
  obtain ⟨d2, q2, ⟨g20, g21, g22⟩, I2⟩ := its_cell (HQ).I 2 6 (by simp) rfl
  replace I2 : It (w3.alloc (.cells #[.int .u64 (l0 v1), .int .u64 (l1 v1), .int .u64 (l2 v1), .int .u64 (l3 v1)] 24)) t2 d2 q2 := I2
  replace g20 : ((w3.alloc (.cells #[.int .u64 (l0 v1), .int .u64 (l1 v1), .int .u64 (l2 v1), .int .u64 (l3 v1)] 24)) : World).cell? ⟨qb, 6, none⟩ = some (.bool t2.l) := g20
  simp only [Nat.reduceAdd] at g21 g22
  obtain ⟨x0, x1, x2⟩ := (HQ).X
  obtain ⟨a2, m2, c2, a'2, m'2, c'2, e21, e22⟩ := I2.slices
  subst e21 e22
  go_wp2_with fail
  refine calls_world (fun V => Qs w V M bi da dn dc qb qc t0 t1 t2 t3 ∧ It V t2 (.slice a2 m2 c2) (.slice a'2 m'2 c'2) ∧ V.rangeAt w3.heap.size 0 [.int .u64 (l0 v1), .int .u64 (l1 v1), .int .u64 (l2 v1), .int .u64 (l3 v1)]) ⟨HQ, I2, rangeBox (M := [.int .u64 (l0 v1), .int .u64 (l1 v1), .int .u64 (l2 v1), .int .u64 (l3 v1)])⟩ ?_
  clear HQ I2 g20 g21 g22 x0 x1 x2
  rintro U1 ⟨HQ, I2, rU⟩
  have HN : Hid (∀ W, Below U1.heap.size U1 W → W.rangeAt w3.heap.size 0 [.int .u64 (l0 v1), .int .u64 (l1 v1), .int .u64 (l2 v1), .int .u64 (l3 v1)]) := fun W b => rangeT_keep rU b
  generalize w3.heap.size = bn at *
  clear rU w3
  with_reducible refine (G2.out _ _ _ I2).mono ?_
  rintro e w4 ⟨rfl, hb⟩
  replace HQ := HQ.keep hb
  replace HN : Hid (∀ W, Below w4.heap.size w4 W → W.rangeAt bn 0 [.int .u64 (l0 v1), .int .u64 (l1 v1), .int .u64 (l2 v1), .int .u64 (l3 v1)]) := fun W b => HN.out W (hb.trans (b.mono hb.size))
  clear hb G2 I2
  have TH := there_new (W := w4) (b := w4.heap.size) (cs := Z.toArray) (t := 26) rfl (n := H2.toArray.size) nz2.symm
  go_wp2_with ((refine wpList_store_mid rfl 26 _ _ rfl w4.heap.size 0 H2.toArray rfl rfl TH iz2 hO2 ?_); (refine wpList_worldA (fun U => Below w4.heap.size w4 U ∧ U.rangeAt w4.heap.size 0 H2) (laid_in ((Below.refl _ _).alloc (Nat.le_refl _) _) (Nat.le_refl _) (by simpa using TH)) ?_); rintro U2 ⟨bU, rU⟩; (replace HQ := HQ.keep bU); (obtain ⟨d3, q3, ⟨g30, g31, g32⟩, I3⟩ := its_cell (HQ).I 3 9 (by simp) rfl); (replace I3 : It U2 t3 d3 q3 := I3); (replace g30 : (U2 : World).cell? ⟨qb, 9, none⟩ = some (.bool t3.l) := g30); (simp only [Nat.reduceAdd] at g31 g32); (obtain ⟨x0, x1, x2⟩ := (HQ).X); (obtain ⟨a3, m3, c3, a'3, m'3, c'3, e31, e32⟩ := I3.slices); (subst e31 e32))
  replace HN : Hid (∀ W, Below U2.heap.size U2 W → W.rangeAt bn 0 [.int .u64 (l0 v1), .int .u64 (l1 v1), .int .u64 (l2 v1), .int .u64 (l3 v1)]) := fun W b => HN.out W (bU.trans (b.mono bU.size))
  have HS : Hid (∀ W, Below U2.heap.size U2 W → W.rangeAt w4.heap.size 0 H2) := fun W b => rangeT_keep rU b
  generalize w4.heap.size = bs at *
  clear rU bU TH w4 iz2 nz2
  with_reducible refine (G3.out _ _ _ I3).mono ?_
  rintro e w5 ⟨rfl, hb⟩
  replace HQ := HQ.keep hb
  replace HN : Hid (∀ W, Below w5.heap.size w5 W → W.rangeAt bn 0 [.int .u64 (l0 v1), .int .u64 (l1 v1), .int .u64 (l2 v1), .int .u64 (l3 v1)]) := fun W b => HN.out W (hb.trans (b.mono hb.size))
  replace HS : Hid (∀ W, Below w5.heap.size w5 W → W.rangeAt bs 0 H2) := fun W b => HS.out W (hb.trans (b.mono hb.size))
  clear hb G3 I3 g30 g31 g32 x0 x1 x2
  have TH := there_new (W := w5) (b := w5.heap.size) (cs := Z.toArray) (t := 26) rfl (n := H3.toArray.size) nz3.symm
  by_cases z0 : e0 = 0
  · subst z0
    by_cases z1 : e1 = 0
    · subst z1
      by_cases z2 : fiE t2 = 0
      · by_cases z3 : fiE t3 = 0
        · simp only [z2, z3, decide_true]
          have HOK : Hid (R = acM (l0 v0) v1 H2 H3 ∧ E = 0) := ⟨by rw [HR.out.1, if_pos ⟨rfl, rfl, z2, z3⟩, LH.out.2.2.1 z2, LH.out.2.2.2 z3], by rw [HR.out.2, if_pos ⟨rfl, rfl, z2, z3⟩]⟩
          clear HR z2 z3
          have lR : Hid (R.length = 69 ∧ R.toArray.all (·.oneCell') = true) := ⟨by rw [HOK.out.1]; exact acM_len LH.out.1 LH.out.2.1, by rw [HOK.out.1]; exact acM_one (all_mem21 hO2) (all_mem21 hO3)⟩
          have izR : (Try.prog.info? 28).map (·.size) = some R.toArray.size := by rw [List.size_toArray, lR.out.1]; exact ac_size
          have izR' : (Try.prog.info? 28).map (·.size) = some R.length := by rw [lR.out.1]; exact ac_size
          have MR : M.toArray.size = R.toArray.size := by rw [List.size_toArray, List.size_toArray, LM.out, lR.out.1]
          have i2 : (Try.prog.info? 26).map (·.size) = some H2.length := by rw [LH.out.1]; exact ha_size
          have i3 : (Try.prog.info? 26).map (·.size) = some H3.length := by rw [LH.out.2.1]; exact ha_size
          go_wp2_with first | ((refine wpList_store_mid rfl 26 _ _ rfl w5.heap.size 0 H3.toArray rfl rfl TH iz3 hO3 ?_); (refine wpList_worldA (fun U => Below w5.heap.size w5 U ∧ U.rangeAt w5.heap.size 0 H3) (laid_in ((Below.refl _ _).alloc (Nat.le_refl _) _) (Nat.le_refl _) (by simpa using TH)) ?_); rintro U3 ⟨bU, rU⟩; (have HQ3 := HQ.keep bU); (have rS := HS.out U3 bU); (have rn := HN.out U3 bU); (have gn0 := rn 0 _ rfl); (have gn1 := rn 1 _ rfl); (have gn2 := rn 2 _ rfl); (have gn3 := rn 3 _ rfl); (have TR := HQ3.T); (rw [MR] at TR); (simp only [Nat.zero_add] at gn0 gn1 gn2 gn3)) | (refine wpList_load_mid rfl 26 _ rfl bs 0 rfl H2 _ rS Try.underlying26 rfl i2 ?_) | (refine wpList_load_mid rfl 26 _ rfl w5.heap.size 0 rfl H3 _ rU Try.underlying26 rfl i3 ?_) | (refine wpList_build_ac rfl rfl rfl rfl rfl rfl LH.out.1 LH.out.2.1 ?_; rw [← HOK.out.1]) | ((refine wpList_store_mid rfl 28 _ _ rfl w.heap.size 0 R.toArray rfl rfl TR izR lR.out.2 ?_); (refine wpList_worldA (fun W' => Below w.heap.size w W' ∧ W'.rangeAt w.heap.size 0 R) (laid_in HQ3.B (Nat.le_refl _) (by simpa using TR)) ?_); rintro W' ⟨B', hD⟩)
          have ld := run_loadVar_mid (P := Try.prog) W' w.heap.size 0 28 R _ hD Try.underlying28 rfl izR'
          refine bodyPost_ret (v := .tuple #[.agg R.toArray, .int .i64 0]) ?_ rfl ⟨by rw [HOK.out.2], B'⟩
          simp [results, Try.results8, asAddr, ld]
        · have HNO : Hid (¬ ((0 : Int) = 0 ∧ (0 : Int) = 0 ∧ fiE t2 = 0 ∧ fiE t3 = 0)) := fun h => z3 h.2.2.2
          simp only [z2, decide_true, decide_eq_false z3]
          have HB : Hid (R = M ∧ E = 214) := ⟨by rw [HR.out.1, if_neg HNO.out], by rw [HR.out.2, if_neg HNO.out]⟩
          go_wp2_with first | ((refine wpList_store_mid rfl 26 _ _ rfl w5.heap.size 0 H3.toArray rfl rfl TH iz3 hO3 ?_); (refine wpList_worldA (fun U => Below w5.heap.size w5 U ∧ U.rangeAt w5.heap.size 0 H3) (laid_in ((Below.refl _ _).alloc (Nat.le_refl _) _) (Nat.le_refl _) (by simpa using TH)) ?_); rintro U3 ⟨bU, rU⟩; (have HQ3 := HQ.keep bU)) | ((refine wpList_store_mid rfl 28 _ _ rfl w.heap.size 0 M.toArray rfl rfl HQ3.T iz on ?_); (refine wpList_worldA (fun W' => Below w.heap.size w W' ∧ W'.rangeAt w.heap.size 0 M) (laid_in HQ3.B (Nat.le_refl _) (by simpa using HQ3.T)) ?_); rintro W' ⟨B', hD⟩)
          have ld := run_loadVar_mid (P := Try.prog) W' w.heap.size 0 28 M _ hD Try.underlying28 rfl iz'
          refine bodyPost_ret (v := .tuple #[.agg M.toArray, .int .i64 214]) ?_ rfl ⟨by rw [HB.out.1, HB.out.2], B'⟩
          simp [results, Try.results8, asAddr, ld]
      · have HNO : Hid (¬ ((0 : Int) = 0 ∧ (0 : Int) = 0 ∧ fiE t2 = 0 ∧ fiE t3 = 0)) := fun h => z2 h.2.2.1
        simp only [decide_eq_false z2]
        have HB : Hid (R = M ∧ E = 214) := ⟨by rw [HR.out.1, if_neg HNO.out], by rw [HR.out.2, if_neg HNO.out]⟩
        go_wp2_with first | ((refine wpList_store_mid rfl 26 _ _ rfl w5.heap.size 0 H3.toArray rfl rfl TH iz3 hO3 ?_); (refine wpList_worldA (fun U => Below w5.heap.size w5 U ∧ U.rangeAt w5.heap.size 0 H3) (laid_in ((Below.refl _ _).alloc (Nat.le_refl _) _) (Nat.le_refl _) (by simpa using TH)) ?_); rintro U3 ⟨bU, rU⟩; (have HQ3 := HQ.keep bU)) | ((refine wpList_store_mid rfl 28 _ _ rfl w.heap.size 0 M.toArray rfl rfl HQ3.T iz on ?_); (refine wpList_worldA (fun W' => Below w.heap.size w W' ∧ W'.rangeAt w.heap.size 0 M) (laid_in HQ3.B (Nat.le_refl _) (by simpa using HQ3.T)) ?_); rintro W' ⟨B', hD⟩)
        have ld := run_loadVar_mid (P := Try.prog) W' w.heap.size 0 28 M _ hD Try.underlying28 rfl iz'
        refine bodyPost_ret (v := .tuple #[.agg M.toArray, .int .i64 214]) ?_ rfl ⟨by rw [HB.out.1, HB.out.2], B'⟩
        simp [results, Try.results8, asAddr, ld]
    · have HNO : Hid (¬ ((0 : Int) = 0 ∧ e1 = 0 ∧ fiE t2 = 0 ∧ fiE t3 = 0)) := fun h => z1 h.2.1
      have z1' : (e1 == 0) = false := by simpa using z1
      have HB : Hid (R = M ∧ E = 214) := ⟨by rw [HR.out.1, if_neg HNO.out], by rw [HR.out.2, if_neg HNO.out]⟩
      go_wp2_with first | ((refine wpList_store_mid rfl 26 _ _ rfl w5.heap.size 0 H3.toArray rfl rfl TH iz3 hO3 ?_); (refine wpList_worldA (fun U => Below w5.heap.size w5 U ∧ U.rangeAt w5.heap.size 0 H3) (laid_in ((Below.refl _ _).alloc (Nat.le_refl _) _) (Nat.le_refl _) (by simpa using TH)) ?_); rintro U3 ⟨bU, rU⟩; (have HQ3 := HQ.keep bU)) | ((refine wpList_store_mid rfl 28 _ _ rfl w.heap.size 0 M.toArray rfl rfl HQ3.T iz on ?_); (refine wpList_worldA (fun W' => Below w.heap.size w W' ∧ W'.rangeAt w.heap.size 0 M) (laid_in HQ3.B (Nat.le_refl _) (by simpa using HQ3.T)) ?_); rintro W' ⟨B', hD⟩)
      have ld := run_loadVar_mid (P := Try.prog) W' w.heap.size 0 28 M _ hD Try.underlying28 rfl iz'
      refine bodyPost_ret (v := .tuple #[.agg M.toArray, .int .i64 214]) ?_ rfl ⟨by rw [HB.out.1, HB.out.2], B'⟩
      simp [results, Try.results8, asAddr, ld]
  · have HNO : Hid (¬ (e0 = 0 ∧ e1 = 0 ∧ fiE t2 = 0 ∧ fiE t3 = 0)) := fun h => z0 h.1
    have z0' : (e0 == 0) = false := by simpa using z0
    have HB : Hid (R = M ∧ E = 214) := ⟨by rw [HR.out.1, if_neg HNO.out], by rw [HR.out.2, if_neg HNO.out]⟩
    go_wp2_with first | ((refine wpList_store_mid rfl 26 _ _ rfl w5.heap.size 0 H3.toArray rfl rfl TH iz3 hO3 ?_); (refine wpList_worldA (fun U => Below w5.heap.size w5 U ∧ U.rangeAt w5.heap.size 0 H3) (laid_in ((Below.refl _ _).alloc (Nat.le_refl _) _) (Nat.le_refl _) (by simpa using TH)) ?_); rintro U3 ⟨bU, rU⟩; (have HQ3 := HQ.keep bU)) | ((refine wpList_store_mid rfl 28 _ _ rfl w.heap.size 0 M.toArray rfl rfl HQ3.T iz on ?_); (refine wpList_worldA (fun W' => Below w.heap.size w W' ∧ W'.rangeAt w.heap.size 0 M) (laid_in HQ3.B (Nat.le_refl _) (by simpa using HQ3.T)) ?_); rintro W' ⟨B', hD⟩)
    have ld := run_loadVar_mid (P := Try.prog) W' w.heap.size 0 28 M _ hD Try.underlying28 rfl iz'
    refine bodyPost_ret (v := .tuple #[.agg M.toArray, .int .i64 214]) ?_ rfl ⟨by rw [HB.out.1, HB.out.2], B'⟩
    simp [results, Try.results8, asAddr, ld]
end Go.Proofs.Ytaefmdofchjofaa
