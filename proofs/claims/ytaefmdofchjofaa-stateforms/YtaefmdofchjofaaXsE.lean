import Derived.Test.YtaefmdofchjofaaXsC
import Derived.Test.YtaefmdofchjofaaRdH
import Derived.Test.YtaefmdofchjofaaXsG
import Derived.Test.YtaefmdofchjofaaQTail
import Derived.Laws.Cover3
/- Layer 21: Parse of the program. -/
namespace Go.Proofs.Ytaefmdofchjofaa
open Go.RowKit Go.Sort
set_option maxRecDepth 100000 in
set_option maxHeartbeats 8000000 in
theorem parse_far {A : List Int} {a : Option Addr} {c : Nat} (hl : 16777216 < A.length) (w : World) :
    Calls Try.prog 7 #[.slice a A.length c] w fun e w' => e = .returned (.tuple #[.agg acZ.toArray, .int .i64 2]) ∧ Below w.heap.size w w' := by
  have h1 : (16777216 : Int) < (A.length : Int) := by omega
  generalize A.length = m at *
  have zh := acz_zero
  have bz := built_acZ
  have on : acZ.toArray.all (·.oneCell') = true := acM_one z32_one z32_one
  have lz := acZ_len
  generalize acZ = M at *
  have iz : (Try.prog.info? 28).map (·.size) = some M.toArray.size := by rw [List.size_toArray, lz]; exact ac_size
  have iz' : (Try.prog.info? 28).map (·.size) = some M.length := by rw [lz]; exact ac_size
  have B0 : Below w.heap.size w (w.alloc (.cells M.toArray 28)) := (Below.refl _ _).alloc (Nat.le_refl _) _
  have T0 : (w.alloc (.cells M.toArray 28)).there w.heap.size 0 M.toArray.size := there_new rfl rfl
  have LM : Hid (M.length = 69) := lz
  clear lz
  clear LM
  go_enter Try.func7, Try.ntmps7
  go_wp2_with ((refine wpList_store_mid rfl 28 _ _ rfl w.heap.size 0 M.toArray rfl rfl T0 iz on ?_); (refine wpList_worldA (fun W' => Below w.heap.size w W' ∧ W'.rangeAt w.heap.size 0 M) (laid_in B0 (Nat.le_refl _) (by simpa using T0)) ?_); rintro W' ⟨B', hD⟩)
  have ld := run_loadVar_mid (P := Try.prog) W' w.heap.size 0 28 M _ hD Try.underlying28 rfl iz'
  refine bodyPost_ret (v := .tuple #[.agg M.toArray, .int .i64 2]) ?_ rfl ⟨rfl, B'⟩
  simp [results, Try.results7, asAddr, ld]
set_option maxRecDepth 100000 in
set_option maxHeartbeats 8000000 in
theorem parse_wide {A : List Int} {a : Option Addr} {c : Nat} (hl : ¬ 16777216 < A.length) (hk : 110 < A.length) (w : World) :
    Calls Try.prog 7 #[.slice a A.length c] w fun e w' => e = .returned (.tuple #[.agg acZ.toArray, .int .i64 214]) ∧ Below w.heap.size w w' := by
  have h1 : ¬ ((16777216 : Int) < (A.length : Int)) := by omega
  have h2 : (110 : Int) < (A.length : Int) := by omega
  generalize A.length = m at *
  have zh := acz_zero
  have bz := built_acZ
  have on : acZ.toArray.all (·.oneCell') = true := acM_one z32_one z32_one
  have lz := acZ_len
  generalize acZ = M at *
  have iz : (Try.prog.info? 28).map (·.size) = some M.toArray.size := by rw [List.size_toArray, lz]; exact ac_size
  have iz' : (Try.prog.info? 28).map (·.size) = some M.length := by rw [lz]; exact ac_size
  have B0 : Below w.heap.size w (w.alloc (.cells M.toArray 28)) := (Below.refl _ _).alloc (Nat.le_refl _) _
  have T0 : (w.alloc (.cells M.toArray 28)).there w.heap.size 0 M.toArray.size := there_new rfl rfl
  have LM : Hid (M.length = 69) := lz
  clear lz
  clear LM
  go_enter Try.func7, Try.ntmps7
  go_wp2_with ((refine wpList_store_mid rfl 28 _ _ rfl w.heap.size 0 M.toArray rfl rfl T0 iz on ?_); (refine wpList_worldA (fun W' => Below w.heap.size w W' ∧ W'.rangeAt w.heap.size 0 M) (laid_in B0 (Nat.le_refl _) (by simpa using T0)) ?_); rintro W' ⟨B', hD⟩)
  have ld := run_loadVar_mid (P := Try.prog) W' w.heap.size 0 28 M _ hD Try.underlying28 rfl iz'
  refine bodyPost_ret (v := .tuple #[.agg M.toArray, .int .i64 214]) ?_ rfl ⟨rfl, B'⟩
  simp [results, Try.results7, asAddr, ld]
set_option maxRecDepth 100000 in
set_option maxHeartbeats 8000000 in
theorem parse_bad {A : List Int} {a : Option Addr} {b o c : Nat} {de : Int} {l : Bool} {X : List Int} {ts : List Tr} (hA : Byts A) (hc : A.length ≤ c) (hnc : a = none → c = 0) (ha : Az a b o A) (w : World) (hz : Bz w b o A) (hl : A.length ≤ 110) (hd : decP A = (de, .mk l X ts)) (hn : ¬ (de = 0 ∧ ts.length = 4)) :
    Calls Try.prog 7 #[.slice a A.length c] w fun e w' => e = .returned (.tuple #[.agg acZ.toArray, .int .i64 214]) ∧ Below w.heap.size w w' := by
  have h1 : ¬ ((16777216 : Int) < (A.length : Int)) := by omega
  have h2 : ¬ ((110 : Int) < (A.length : Int)) := by omega
  have DP : Hid (∀ W, Below w.heap.size w W → Calls Try.prog 24 #[.slice a A.length c] W fun e w' => ∃ d q, e = .returned (.tuple #[.agg #[.bool l, d, q], .int .i64 de]) ∧ Ot w' (.mk l X ts) (fun k => W.heap.size ≤ k) d q ∧ Below W.heap.size W w') := fun W B => by
    have h := Decode_any hA hc hnc ha W (hz.keep B)
    rw [hd] at h
    exact h
  clear hd
  clear hA hc hnc ha hz hl
  generalize A.length = m at *
  have zh := acz_zero
  have bz := built_acZ
  have on : acZ.toArray.all (·.oneCell') = true := acM_one z32_one z32_one
  have lz := acZ_len
  generalize acZ = M at *
  have iz : (Try.prog.info? 28).map (·.size) = some M.toArray.size := by rw [List.size_toArray, lz]; exact ac_size
  have iz' : (Try.prog.info? 28).map (·.size) = some M.length := by rw [lz]; exact ac_size
  have B0 : Below w.heap.size w (w.alloc (.cells M.toArray 28)) := (Below.refl _ _).alloc (Nat.le_refl _) _
  have T0 : (w.alloc (.cells M.toArray 28)).there w.heap.size 0 M.toArray.size := there_new rfl rfl
  have LM : Hid (M.length = 69) := lz
  clear lz
  go_enter Try.func7, Try.ntmps7
  go_wp2_with fail
  with_reducible refine (DP.out _ B0).mono ?_
  rintro e w1 ⟨d, q, rfl, O1, hb⟩
  have T1 := there_keepS T0 (by simp) hb
  have B1 := B0.trans (hb.mono B0.size)
  have lt1 : w.heap.size < w1.heap.size := Nat.lt_of_lt_of_le (by simp) hb.size
  clear hb T0 B0 DP
  obtain ⟨qa, qb, qc, eq, _, hq, hI⟩ := (Ot.get O1).2.2.its
  obtain ⟨da, dn, dc, _, _, _, ed, _⟩ := (Ot.it _ O1).slices
  replace eq : q = .slice qa ts.length qc := eq
  replace hq : ts = [] ∨ qa = some ⟨qb, 0, none⟩ := hq
  replace hI : Its w1 qb 0 ts := hI
  subst eq ed
  clear O1
  clear hI hq LM
  have T2 := fun (o : Obj) => there_keepS T1 lt1 ((Below.refl _ _).alloc (Nat.le_refl _) o)
  have B2 := fun (o : Obj) => B1.alloc B1.size o
  clear T1 B1
  by_cases z1 : de = 0
  · subst z1
    have z3 : ((ts.length : Int) == 4) = false := by simpa using fun e => hn ⟨rfl, by omega⟩
    clear hn
    generalize ts.length = n at *
    go_wp2_with ((refine wpList_store_mid rfl 28 _ _ rfl w.heap.size 0 M.toArray rfl rfl (T2 _) iz on ?_); (refine wpList_worldA (fun W' => Below w.heap.size w W' ∧ W'.rangeAt w.heap.size 0 M) (laid_in (B2 _) (Nat.le_refl _) (by simpa using (T2 _))) ?_); rintro W' ⟨B', hD⟩)
    have ld := run_loadVar_mid (P := Try.prog) W' w.heap.size 0 28 M _ hD Try.underlying28 rfl iz'
    refine bodyPost_ret (v := .tuple #[.agg M.toArray, .int .i64 214]) ?_ rfl ⟨rfl, B'⟩
    simp [results, Try.results7, asAddr, ld]
  · have z2 : (de == 0) = false := by simpa using z1
    clear hn
    generalize ts.length = n at *
    go_wp2_with ((refine wpList_store_mid rfl 28 _ _ rfl w.heap.size 0 M.toArray rfl rfl (T2 _) iz on ?_); (refine wpList_worldA (fun W' => Below w.heap.size w W' ∧ W'.rangeAt w.heap.size 0 M) (laid_in (B2 _) (Nat.le_refl _) (by simpa using (T2 _))) ?_); rintro W' ⟨B', hD⟩)
    have ld := run_loadVar_mid (P := Try.prog) W' w.heap.size 0 28 M _ hD Try.underlying28 rfl iz'
    refine bodyPost_ret (v := .tuple #[.agg M.toArray, .int .i64 214]) ?_ rfl ⟨rfl, B'⟩
    simp [results, Try.results7, asAddr, ld]
theorem quiet_array21 {P : Program} {C : World → Prop} {a : Act} {o : Oper} {K : Act → Prop} (arr e : TypeId) (x : Operand) (n : Nat) (ad : Option Addr) (len cap : Nat) (ho : o.op = .sliceToArrayPointer arr x) (hx : a.eval x = .slice ad len cap) (hu : P.underlying arr = some (.array n e)) (hn : n ≤ len) (h : K (a.put o.dst (.pointer ad))) : o.quiet P a C K := by
  refine ⟨.pointer ad, fun w _ => ?_, h⟩
  unfold Oper.quietAt execOp
  simp only [ho, hx, Sem.run_bind, run_arrayAt w arr e n ad len cap hu hn, Result.andThen_ok]
  exact ⟨rfl, rfl⟩
theorem own_at21 {B : Nat} {W : World} {v : Value} {X : List Int} (h : OwnB B W v X) (hX : X.length = 32) : ∃ g c, v = .slice (some ⟨g, 0, none⟩) 32 c ∧ W.rangeAt g 0 (u8L X) := by
  obtain ⟨a, g, c, e, h5, h6, h7, _⟩ := h.lies
  have := h6.cons (by omega)
  subst this
  rw [hX] at e
  exact ⟨g, c, e, h7.rangeS⟩
theorem quiet_build_ac {C : World → Prop} {a : Act} {o : Oper} {K : Act → Prop} {x y z u : Operand} {n b : Int} {S D : List Value} (hS : S.length = 32) (hD : D.length = 32) (ho : o.op = .build 28 #[(0, x), (1, y), (2, z), (3, u)]) (hx : a.eval x = .int .u64 n) (hy : a.eval y = .agg #[.int .u64 (l0 b), .int .u64 (l1 b), .int .u64 (l2 b), .int .u64 (l3 b)]) (hz : a.eval z = .agg S.toArray) (hu : a.eval u = .agg D.toArray)
    (h : K (a.put o.dst (.agg (acM n b S D).toArray))) : o.quiet Try.prog a C K := by
  refine ⟨.agg (acM n b S D).toArray, fun w _ => ?_, h⟩
  have hr := yields_built (w := w) hS hD ho hx hy hz hu
  unfold Oper.quietAt
  rw [hr]
  exact ⟨rfl, rfl⟩
set_option maxRecDepth 100000 in
set_option maxHeartbeats 8000000 in
theorem parse_four {A : List Int} {a : Option Addr} {b o c : Nat} {X : List Int} {t0 t1 t2 t3 : Tr} (hA : Byts A) (hc : A.length ≤ c) (hnc : a = none → c = 0) (ha : Az a b o A) (w : World) (hz : Bz w b o A) (hl : A.length ≤ 110) (hd : decP A = (0, .mk true X [t0, t1, t2, t3])) :
    Calls Try.prog 7 #[.slice a A.length c] w fun e w' => e = .returned (.tuple #[.agg (open Classical in if (nuE t0 8 = 0 ∧ nuE t1 32 = 0 ∧ fiE t2 = 0 ∧ fiE t3 = 0) then acM (l0 (nuV t0 8)) (nuV t1 32) (u8L t2.X) (u8L t3.X) else acZ).toArray, .int .i64 (open Classical in if (nuE t0 8 = 0 ∧ nuE t1 32 = 0 ∧ fiE t2 = 0 ∧ fiE t3 = 0) then 0 else 214)]) ∧ Below w.heap.size w w' := by
  have h1 : ¬ ((16777216 : Int) < (A.length : Int)) := by omega
  have h2 : ¬ ((110 : Int) < (A.length : Int)) := by omega
  have DP : Hid (∀ W, Below w.heap.size w W → Calls Try.prog 24 #[.slice a A.length c] W fun e w' => ∃ d q, e = .returned (.tuple #[.agg #[.bool true, d, q], .int .i64 0]) ∧ Ot w' (.mk true X [t0, t1, t2, t3]) (fun k => W.heap.size ≤ k) d q ∧ Below W.heap.size W w') := fun W B => by
    have h := Decode_any hA hc hnc ha W (hz.keep B)
    rw [hd] at h
    exact h
  obtain ⟨⟨y0, y1, _, _⟩, n0, n1, n2, n3⟩ := four_items hA hd
  have G0 : Hid (∀ W d q, It W t0 d q → Calls Try.prog 25 #[.agg #[.bool t0.l, d, q]] W fun e w' => e = .returned (.tuple #[.int .u64 (l0 (nuV t0 8)), .int .i64 (nuE t0 8)]) ∧ Below W.heap.size W w') := fun W d q h => psmall_it y0 W h
  have G1 : Hid (∀ W d q, It W t1 d q → Calls Try.prog 26 #[.agg #[.bool t1.l, d, q]] W fun e w' => e = .returned (.tuple #[.agg #[.int .u64 (l0 (nuV t1 32)), .int .u64 (l1 (nuV t1 32)), .int .u64 (l2 (nuV t1 32)), .int .u64 (l3 (nuV t1 32))], .int .i64 (nuE t1 32)]) ∧ Below W.heap.size W w') := fun W d q h => pnumber_it y1 W h
  have G2 : Hid (∀ W d q, It W t2 d q → Calls Try.prog 27 #[.agg #[.bool t2.l, d, q], .int .i64 32] W fun e w' => ∃ v, e = .returned (.tuple #[v, .int .i64 (fiE t2)]) ∧ OwnB W.heap.size w' v (fixL t2.l t2.X t2.ts 32) ∧ Below W.heap.size W w') := fun W d q h => pfixed_it n2 W h
  have G3 : Hid (∀ W d q, It W t3 d q → Calls Try.prog 27 #[.agg #[.bool t3.l, d, q], .int .i64 32] W fun e w' => ∃ v, e = .returned (.tuple #[v, .int .i64 (fiE t3)]) ∧ OwnB W.heap.size w' v (fixL t3.l t3.X t3.ts 32) ∧ Below W.heap.size W w') := fun W d q h => pfixed_it n3 W h
  clear hd y0 y1 n0 n1 n2 n3
  clear hA hc hnc ha hz hl
  generalize A.length = m at *
  have zh := acz_zero
  have bz := built_acZ
  have on : acZ.toArray.all (·.oneCell') = true := acM_one z32_one z32_one
  have lz := acZ_len
  generalize acZ = M at *
  have iz : (Try.prog.info? 28).map (·.size) = some M.toArray.size := by rw [List.size_toArray, lz]; exact ac_size
  have iz' : (Try.prog.info? 28).map (·.size) = some M.length := by rw [lz]; exact ac_size
  have B0 : Below w.heap.size w (w.alloc (.cells M.toArray 28)) := (Below.refl _ _).alloc (Nat.le_refl _) _
  have T0 : (w.alloc (.cells M.toArray 28)).there w.heap.size 0 M.toArray.size := there_new rfl rfl
  have LM : Hid (M.length = 69) := lz
  clear lz
  obtain ⟨R, hR⟩ : ∃ R, R = (open Classical in if (nuE t0 8 = 0 ∧ nuE t1 32 = 0 ∧ fiE t2 = 0 ∧ fiE t3 = 0) then acM (l0 (nuV t0 8)) (nuV t1 32) (u8L t2.X) (u8L t3.X) else M) := ⟨_, rfl⟩
  obtain ⟨E, hE⟩ : ∃ E : Int, E = (open Classical in if (nuE t0 8 = 0 ∧ nuE t1 32 = 0 ∧ fiE t2 = 0 ∧ fiE t3 = 0) then 0 else 214) := ⟨_, rfl⟩
  rw [← hR, ← hE]
  have HR : Hid (R = (open Classical in if (nuE t0 8 = 0 ∧ nuE t1 32 = 0 ∧ fiE t2 = 0 ∧ fiE t3 = 0) then acM (l0 (nuV t0 8)) (nuV t1 32) (u8L t2.X) (u8L t3.X) else M) ∧ E = (open Classical in if (nuE t0 8 = 0 ∧ nuE t1 32 = 0 ∧ fiE t2 = 0 ∧ fiE t3 = 0) then 0 else 214)) := ⟨hR, hE⟩
  clear hR hE
  generalize nuV t0 8 = v0 at *
  generalize nuE t0 8 = e0 at *
  generalize nuV t1 32 = v1 at *
  generalize nuE t1 32 = e1 at *
  go_enter Try.func7, Try.ntmps7
  go_wp2_with fail
  with_reducible refine (DP.out _ B0).mono ?_
  rintro e w1 ⟨d, q, rfl, O1, hb⟩
  have T1 := there_keepS T0 (by simp) hb
  have B1 := B0.trans (hb.mono B0.size)
  have lt1 : w.heap.size < w1.heap.size := Nat.lt_of_lt_of_le (by simp) hb.size
  clear hb T0 B0 DP
  obtain ⟨qa, qb, qc, eq, _, hq, hI⟩ := (Ot.get O1).2.2.its
  obtain ⟨da, dn, dc, _, _, _, ed, _⟩ := (Ot.it _ O1).slices
  replace eq : q = .slice qa 4 qc := eq
  replace hq : [t0, t1, t2, t3] = [] ∨ qa = some ⟨qb, 0, none⟩ := hq
  replace hI : Its w1 qb 0 [t0, t1, t2, t3] := hI
  subst eq ed
  clear O1
  obtain rfl : qa = some ⟨qb, 0, none⟩ := hq.resolve_left (by simp)
  have HQ : Qs w (w1.alloc (.cells #[.bool true, .slice da dn dc, .slice (some ⟨qb, 0, none⟩) 4 qc] 48)) M w1.heap.size da dn dc qb qc t0 t1 t2 t3 :=
    ⟨B1.alloc B1.size _, there_keepS T1 lt1 ((Below.refl _ _).alloc (Nat.le_refl _) _), by simp; omega, ⟨by simp [go_sem], by simp [go_sem], by simp [go_sem]⟩, hI.keepS ((Below.refl _ _).alloc (Nat.le_refl _) _)⟩
  clear B1 T1 lt1 hI hq
  obtain ⟨d0, q0, ⟨g00, g01, g02⟩, I0⟩ := its_cell (HQ).I 0 0 (by simp) rfl
  replace I0 : It (w1.alloc (.cells #[.bool true, .slice da dn dc, .slice (some ⟨qb, 0, none⟩) 4 qc] 48)) t0 d0 q0 := I0
  replace g00 : ((w1.alloc (.cells #[.bool true, .slice da dn dc, .slice (some ⟨qb, 0, none⟩) 4 qc] 48)) : World).cell? ⟨qb, 0, none⟩ = some (.bool t0.l) := g00
  simp only [Nat.reduceAdd] at g01 g02
  obtain ⟨x0, x1, x2⟩ := (HQ).X
  obtain ⟨a0, m0, c0, a'0, m'0, c'0, e01, e02⟩ := I0.slices
  subst e01 e02
  go_wp2_with fail
  refine calls_world (fun V => Qs w V M w1.heap.size da dn dc qb qc t0 t1 t2 t3 ∧ It V t0 (.slice a0 m0 c0) (.slice a'0 m'0 c'0)) ⟨HQ, I0⟩ ?_
  clear HQ I0 g00 g01 g02 x0 x1 x2
  rintro V1 ⟨HQ, I0⟩
  generalize w1.heap.size = bi at *
  with_reducible refine (G0.out _ _ _ I0).mono ?_
  rintro e w2 ⟨rfl, hb⟩
  replace HQ := HQ.keep hb
  clear hb G0 I0 V1
  obtain ⟨d1, q1, ⟨g10, g11, g12⟩, I1⟩ := its_cell (HQ).I 1 3 (by simp) rfl
  replace I1 : It w2 t1 d1 q1 := I1
  replace g10 : (w2 : World).cell? ⟨qb, 3, none⟩ = some (.bool t1.l) := g10
  simp only [Nat.reduceAdd] at g11 g12
  obtain ⟨x0, x1, x2⟩ := (HQ).X
  obtain ⟨a1, m1, c1, a'1, m'1, c'1, e11, e12⟩ := I1.slices
  subst e11 e12
  go_wp2_with fail
  with_reducible refine (G1.out _ _ _ I1).mono ?_
  rintro e w3 ⟨rfl, hb⟩
  replace HQ := HQ.keep hb
  clear hb G1 I1 g10 g11 g12 x0 x1 x2
  replace HQ := HQ.keep ((Below.refl _ _).alloc (Nat.le_refl _) (.cells #[.int .u64 (l0 v1), .int .u64 (l1 v1), .int .u64 (l2 v1), .int .u64 (l3 v1)] 24))
  obtain ⟨d2, q2, ⟨g20, g21, g22⟩, I2⟩ := its_cell (HQ).I 2 6 (by simp) rfl
  replace I2 : It (w3.alloc (.cells #[.int .u64 (l0 v1), .int .u64 (l1 v1), .int .u64 (l2 v1), .int .u64 (l3 v1)] 24)) t2 d2 q2 := I2
  replace g20 : ((w3.alloc (.cells #[.int .u64 (l0 v1), .int .u64 (l1 v1), .int .u64 (l2 v1), .int .u64 (l3 v1)] 24)) : World).cell? ⟨qb, 6, none⟩ = some (.bool t2.l) := g20
  simp only [Nat.reduceAdd] at g21 g22
  obtain ⟨x0, x1, x2⟩ := (HQ).X
  obtain ⟨a2, m2, c2, a'2, m'2, c'2, e21, e22⟩ := I2.slices
  subst e21 e22
  go_wp2_with fail
  refine calls_world (fun V => Qs w V M bi da dn dc qb qc t0 t1 t2 t3 ∧ It V t2 (.slice a2 m2 c2) (.slice a'2 m'2 c'2) ∧ V.rangeAt w3.heap.size 0 [.int .u64 (l0 v1), .int .u64 (l1 v1), .int .u64 (l2 v1), .int .u64 (l3 v1)]) ⟨HQ, I2, rangeBox (M := [.int .u64 (l0 v1), .int .u64 (l1 v1), .int .u64 (l2 v1), .int .u64 (l3 v1)])⟩ ?_
  clear HQ I2 g20 g21 g22 x0 x1 x2
  rintro U1 ⟨HQ, I2, rU⟩
  have HN : Hid (∀ W, Below U1.heap.size U1 W → W.rangeAt w3.heap.size 0 [.int .u64 (l0 v1), .int .u64 (l1 v1), .int .u64 (l2 v1), .int .u64 (l3 v1)]) := fun W b => rangeT_keep rU b
  generalize w3.heap.size = bn at *
  clear rU w3
  with_reducible refine (G2.out _ _ _ I2).mono ?_
  rintro e w4 ⟨p2, rfl, O2, hb⟩
  replace HQ := HQ.keep hb
  replace HN : Hid (∀ W, Below w4.heap.size w4 W → W.rangeAt bn 0 [.int .u64 (l0 v1), .int .u64 (l1 v1), .int .u64 (l2 v1), .int .u64 (l3 v1)]) := fun W b => HN.out W (hb.trans (b.mono hb.size))
  have HS : Hid (∀ W, Below w4.heap.size w4 W → OwnB U1.heap.size W p2 (fixL t2.l t2.X t2.ts 32)) := fun W b => O2.keep b
  clear hb G2 I2 O2
  obtain ⟨d3, q3, ⟨g30, g31, g32⟩, I3⟩ := its_cell (HQ).I 3 9 (by simp) rfl
  replace I3 : It w4 t3 d3 q3 := I3
  replace g30 : (w4 : World).cell? ⟨qb, 9, none⟩ = some (.bool t3.l) := g30
  simp only [Nat.reduceAdd] at g31 g32
  obtain ⟨x0, x1, x2⟩ := (HQ).X
  obtain ⟨a3, m3, c3, a'3, m'3, c'3, e31, e32⟩ := I3.slices
  subst e31 e32
  go_wp2_with fail
  with_reducible refine (G3.out _ _ _ I3).mono ?_
  rintro e w5 ⟨p3, rfl, O3, hb⟩
  replace HQ := HQ.keep hb
  replace HN : Hid (∀ W, Below w5.heap.size w5 W → W.rangeAt bn 0 [.int .u64 (l0 v1), .int .u64 (l1 v1), .int .u64 (l2 v1), .int .u64 (l3 v1)]) := fun W b => HN.out W (hb.trans (b.mono hb.size))
  replace HS : Hid (OwnB U1.heap.size w5 p2 (fixL t2.l t2.X t2.ts 32) ∧ OwnB w4.heap.size w5 p3 (fixL t3.l t3.X t3.ts 32)) := ⟨HS.out w5 hb, O3⟩
  clear hb G3 I3 O3 g30 g31 g32 x0 x1 x2
  by_cases z0 : e0 = 0
  · subst z0
    by_cases z1 : e1 = 0
    · subst z1
      by_cases z2 : fiE t2 = 0
      · by_cases z3 : fiE t3 = 0
        · have HOK : Hid (R = acM (l0 v0) v1 (u8L t2.X) (u8L t3.X) ∧ E = 0) := ⟨by rw [HR.out.1, if_pos ⟨rfl, rfl, z2, z3⟩], by rw [HR.out.2, if_pos ⟨rfl, rfl, z2, z3⟩]⟩
          have L2 : Hid (t2.X.length = 32 ∧ (u8L t2.X).length = 32) := ⟨fi_len z2, by rw [u8L, List.length_map]; exact fi_len z2⟩
          have L3 : Hid (t3.X.length = 32 ∧ (u8L t3.X).length = 32) := ⟨fi_len z3, by rw [u8L, List.length_map]; exact fi_len z3⟩
          rw [z2, z3]
          rw [fix_L z2, fix_L z3] at HS
          have lR : Hid (R.length = 69 ∧ R.toArray.all (·.oneCell') = true) := ⟨by rw [HOK.out.1]; exact acM_len L2.out.2 L3.out.2, by rw [HOK.out.1]; exact acM_one (u8L_one _) (u8L_one _)⟩
          clear HR z2 z3
          have izR : (Try.prog.info? 28).map (·.size) = some R.toArray.size := by rw [List.size_toArray, lR.out.1]; exact ac_size
          have izR' : (Try.prog.info? 28).map (·.size) = some R.length := by rw [lR.out.1]; exact ac_size
          have MR : M.toArray.size = R.toArray.size := by rw [List.size_toArray, List.size_toArray, LM.out, lR.out.1]
          have i2 : (Try.prog.info? 26).map (·.size) = some (u8L t2.X).length := by rw [L2.out.2]; exact ha_size
          have i3 : (Try.prog.info? 26).map (·.size) = some (u8L t3.X).length := by rw [L3.out.2]; exact ha_size
          obtain ⟨gs, cs, rfl, r2⟩ := own_at21 HS.out.1 L2.out.1
          obtain ⟨gc, cc, rfl, r3⟩ := own_at21 HS.out.2 L3.out.1
          have rr2 : ∀ W, (∃ p : Regrown, W = grow (redrawn w5 p.d) p.os) → W.rangeAt gs 0 (u8L t2.X) := fun W h => by
            obtain ⟨p, rfl⟩ := h
            exact rangeT_keep r2 (below_regrown w5 p.d p.os)
          have rr3 : ∀ W, (∃ p : Regrown, W = grow (redrawn w5 p.d) p.os) → W.rangeAt gc 0 (u8L t3.X) := fun W h => by
            obtain ⟨p, rfl⟩ := h
            exact rangeT_keep r3 (below_regrown w5 p.d p.os)
          have rrn : ∀ W, (∃ p : Regrown, W = grow (redrawn w5 p.d) p.os) → W.rangeAt bn 0 [.int .u64 (l0 v1), .int .u64 (l1 v1), .int .u64 (l2 v1), .int .u64 (l3 v1)] := fun W h => by
            obtain ⟨p, rfl⟩ := h
            exact HN.out _ (below_regrown w5 p.d p.os)
          clear r2 r3 HN HS
          generalize u8L t2.X = D2 at *
          generalize u8L t3.X = D3 at *
          go_wp2_with fail
          refine below_tail 9 (by kernel_rfl) (by kernel_rfl) ?_
          simp only [List.take_succ_cons, List.take_zero, List.drop_succ_cons, List.drop_zero]
          repeat
            first
              | go_big_quiet_skip
              | (go_big_quiet_want; refine quiet_load_midT 24 _ rfl bn 0 rfl [.int .u64 (l0 v1), .int .u64 (l1 v1), .int .u64 (l2 v1), .int .u64 (l3 v1)] _ rrn Try.underlying24 rfl (by kernel_rfl) ?_; simp only [Act.put, List.setIfInBounds_toArray, List.set_cons_succ, List.set_cons_zero]; go_big_quiet_on)
              | (go_big_quiet_want; refine quiet_load_midT 26 _ rfl gs 0 rfl D2 _ rr2 Try.underlying26 rfl i2 ?_; simp only [Act.put, List.setIfInBounds_toArray, List.set_cons_succ, List.set_cons_zero]; go_big_quiet_on)
              | (go_big_quiet_want; refine quiet_load_midT 26 _ rfl gc 0 rfl D3 _ rr3 Try.underlying26 rfl i3 ?_; simp only [Act.put, List.setIfInBounds_toArray, List.set_cons_succ, List.set_cons_zero]; go_big_quiet_on)
              | (go_big_quiet_want; refine quiet_array21 26 _ _ 32 _ 32 _ rfl rfl Try.underlying26 (Nat.le_refl _) ?_; simp only [Act.put, List.setIfInBounds_toArray, List.set_cons_succ, List.set_cons_zero]; go_big_quiet_on)
              | (go_big_quiet_want; refine quiet_build_ac L2.out.2 L3.out.2 rfl rfl rfl rfl rfl ?_; simp only [Act.put, List.setIfInBounds_toArray, List.set_cons_succ, List.set_cons_zero]; go_big_quiet_on)
              | (go_big_quiet_want; go_big_quiet_op; go_big_quiet_on)
          refine wpQuiet_nil ?_
          rintro w6 ⟨q, rfl⟩
          have HQ6 := HQ.keep (below_regrown w5 q.d q.os)
          generalize grow (redrawn w5 q.d) q.os = w6 at *
          rw [← HOK.out.1]
          have TR := HQ6.T
          rw [MR] at TR
          clear rr2 rr3 rrn HQ
          go_wp2_with ((refine wpList_store_mid rfl 28 _ _ rfl w.heap.size 0 R.toArray rfl rfl TR izR lR.out.2 ?_); (refine wpList_worldA (fun W' => Below w.heap.size w W' ∧ W'.rangeAt w.heap.size 0 R) (laid_in HQ6.B (Nat.le_refl _) (by simpa using TR)) ?_); rintro W' ⟨B', hD⟩)
          have ld := run_loadVar_mid (P := Try.prog) W' w.heap.size 0 28 R _ hD Try.underlying28 rfl izR'
          refine bodyPost_ret (v := .tuple #[.agg R.toArray, .int .i64 0]) ?_ rfl ⟨by rw [HOK.out.2], B'⟩
          simp [results, Try.results7, asAddr, ld]
        · have HNO : Hid (¬ ((0 : Int) = 0 ∧ (0 : Int) = 0 ∧ fiE t2 = 0 ∧ fiE t3 = 0)) := fun h => z3 h.2.2.2
          have z3' : (fiE t3 == 0) = false := by simpa using z3
          rw [z2]
          have HB : Hid (R = M ∧ E = 214) := ⟨by rw [HR.out.1, if_neg HNO.out], by rw [HR.out.2, if_neg HNO.out]⟩
          go_wp2_with ((refine wpList_store_mid rfl 28 _ _ rfl w.heap.size 0 M.toArray rfl rfl HQ.T iz on ?_); (refine wpList_worldA (fun W' => Below w.heap.size w W' ∧ W'.rangeAt w.heap.size 0 M) (laid_in HQ.B (Nat.le_refl _) (by simpa using HQ.T)) ?_); rintro W' ⟨B', hD⟩)
          have ld := run_loadVar_mid (P := Try.prog) W' w.heap.size 0 28 M _ hD Try.underlying28 rfl iz'
          refine bodyPost_ret (v := .tuple #[.agg M.toArray, .int .i64 214]) ?_ rfl ⟨by rw [HB.out.1, HB.out.2], B'⟩
          simp [results, Try.results7, asAddr, ld]
      · have HNO : Hid (¬ ((0 : Int) = 0 ∧ (0 : Int) = 0 ∧ fiE t2 = 0 ∧ fiE t3 = 0)) := fun h => z2 h.2.2.1
        have z2' : (fiE t2 == 0) = false := by simpa using z2
        have HB : Hid (R = M ∧ E = 214) := ⟨by rw [HR.out.1, if_neg HNO.out], by rw [HR.out.2, if_neg HNO.out]⟩
        go_wp2_with ((refine wpList_store_mid rfl 28 _ _ rfl w.heap.size 0 M.toArray rfl rfl HQ.T iz on ?_); (refine wpList_worldA (fun W' => Below w.heap.size w W' ∧ W'.rangeAt w.heap.size 0 M) (laid_in HQ.B (Nat.le_refl _) (by simpa using HQ.T)) ?_); rintro W' ⟨B', hD⟩)
        have ld := run_loadVar_mid (P := Try.prog) W' w.heap.size 0 28 M _ hD Try.underlying28 rfl iz'
        refine bodyPost_ret (v := .tuple #[.agg M.toArray, .int .i64 214]) ?_ rfl ⟨by rw [HB.out.1, HB.out.2], B'⟩
        simp [results, Try.results7, asAddr, ld]
    · have HNO : Hid (¬ ((0 : Int) = 0 ∧ e1 = 0 ∧ fiE t2 = 0 ∧ fiE t3 = 0)) := fun h => z1 h.2.1
      have z1' : (e1 == 0) = false := by simpa using z1
      have HB : Hid (R = M ∧ E = 214) := ⟨by rw [HR.out.1, if_neg HNO.out], by rw [HR.out.2, if_neg HNO.out]⟩
      go_wp2_with ((refine wpList_store_mid rfl 28 _ _ rfl w.heap.size 0 M.toArray rfl rfl HQ.T iz on ?_); (refine wpList_worldA (fun W' => Below w.heap.size w W' ∧ W'.rangeAt w.heap.size 0 M) (laid_in HQ.B (Nat.le_refl _) (by simpa using HQ.T)) ?_); rintro W' ⟨B', hD⟩)
      have ld := run_loadVar_mid (P := Try.prog) W' w.heap.size 0 28 M _ hD Try.underlying28 rfl iz'
      refine bodyPost_ret (v := .tuple #[.agg M.toArray, .int .i64 214]) ?_ rfl ⟨by rw [HB.out.1, HB.out.2], B'⟩
      simp [results, Try.results7, asAddr, ld]
  · have HNO : Hid (¬ (e0 = 0 ∧ e1 = 0 ∧ fiE t2 = 0 ∧ fiE t3 = 0)) := fun h => z0 h.1
    have z0' : (e0 == 0) = false := by simpa using z0
    have HB : Hid (R = M ∧ E = 214) := ⟨by rw [HR.out.1, if_neg HNO.out], by rw [HR.out.2, if_neg HNO.out]⟩
    go_wp2_with ((refine wpList_store_mid rfl 28 _ _ rfl w.heap.size 0 M.toArray rfl rfl HQ.T iz on ?_); (refine wpList_worldA (fun W' => Below w.heap.size w W' ∧ W'.rangeAt w.heap.size 0 M) (laid_in HQ.B (Nat.le_refl _) (by simpa using HQ.T)) ?_); rintro W' ⟨B', hD⟩)
    have ld := run_loadVar_mid (P := Try.prog) W' w.heap.size 0 28 M _ hD Try.underlying28 rfl iz'
    refine bodyPost_ret (v := .tuple #[.agg M.toArray, .int .i64 214]) ?_ rfl ⟨by rw [HB.out.1, HB.out.2], B'⟩
    simp [results, Try.results7, asAddr, ld]
end Go.Proofs.Ytaefmdofchjofaa
