import Derived.Test.YtllfmlgnemkklaaDoorTsC
import Derived.Laws.StructEq
/- '==' of numbers, arrays of bytes and authorizations: any two. -/
namespace Go.Proofs.YtllfmlgnemkklaaDoor.tq
open Go.RowKit Go.Sort
theorem eq_loopT {d : Nat} {X Y : List Int} (w : World) : ∀ (m s : Nat), s + m ≤ X.length → s + m ≤ Y.length →
    (forIn (m := Sem) (List.range' s m) ((none : Option Bool), ()) fun i _ => do
      let x ← part 5 (X.map (Value.int .u8)).toArray (i * 1)
      let y ← part 5 (Y.map (Value.int .u8)).toArray (i * 1)
      let b ← Op.equalIn (d + 1) 5 x y
      if (!b) = true then pure (ForInStep.done (some false, ())) else pure (ForInStep.yield (none, ()))).run Tryd.prog w = .ok (if sameJ X Y s m = true then (none, ()) else (some false, ())) w
  | 0, s, _, _ => by simp [sameJ]
  | m + 1, s, h1, h2 => by
    have tu := Tryd.underlying5
    rw [List.range'_succ, List.forIn_cons]
    simp only [Sem.run_bind, part_j (show s < X.length by omega), part_j (show s < Y.length by omega), Result.andThen_ok]
    rw [run_equalIn_int _ _ _ _ _ _ _ tu]
    simp only [Result.andThen_ok]
    rw [sameJ]
    have ih := eq_loopT (d := d) (X := X) (Y := Y) w m (s + 1) (by omega) (by omega)
    generalize X.getD s 0 = a at *
    generalize Y.getD s 0 = b at *
    by_cases e : a = b
    · subst e
      simp only [beq_self_eq_true, Bool.not_true, Bool.false_eq_true, if_false, Sem.run_pure, Result.andThen_ok, Bool.true_and]
      exact ih
    · have ne : (a == b) = false := beq_eq_false_iff_ne.2 e
      simp only [ne, Bool.not_false, if_true, Sem.run_pure, Result.andThen_ok, Bool.false_and, Bool.false_eq_true, if_false]
theorem eq_arr {T : TypeId} {n : Nat} (d : Nat) (hT : Tryd.prog.underlying T = some (.array n 5)) {X Y : List Int} (hx : X.length = n) (hy : Y.length = n) (w : World) : (Op.equalIn (d + 2) T (.agg (hC X).toArray) (.agg (hC Y).toArray)).run Tryd.prog w = .ok (decide (X = Y)) w := by
  unfold hC
  rw [Op.equalIn]
  have tz : (sizeOf 5).run Tryd.prog w = .ok 1 w := by have := Tryd.sizeOf5; simp [go_sem, this]
  simp only [Sem.run_bind, run_underlying hT, Result.andThen_ok, tz]
  simp only [Std.Legacy.Range.forIn_eq_forIn_range', Std.Legacy.Range.size, Nat.sub_zero, Nat.add_sub_cancel, Nat.div_one]
  have h := eq_loopT (d := d) (X := X) (Y := Y) w n 0 (by omega) (by omega)
  rw [h, sameJ_eq hx hy]
  by_cases e : X = Y <;> simp [e]
theorem eq_lim (d : Nat) (a0 a1 a2 a3 b0 b1 b2 b3 : Int) (w : World) : (Op.equalIn (d + 2) 24 (.agg #[.int .u64 a0, .int .u64 a1, .int .u64 a2, .int .u64 a3]) (.agg #[.int .u64 b0, .int .u64 b1, .int .u64 b2, .int .u64 b3])).run Tryd.prog w = .ok (decide (a0 = b0) && (decide (a1 = b1) && (decide (a2 = b2) && decide (a3 = b3)))) w := by
  have tu := Tryd.underlying22
  have ta := Tryd.isAgg22
  have tz := Tryd.sizeOf22
  rw [Op.equalIn]
  simp only [Sem.run_bind, run_underlying Tryd.underlying24, Result.andThen_ok]
  simp only [Std.Legacy.Range.forIn_eq_forIn_range', Std.Legacy.Range.size, Nat.sub_zero, Nat.add_sub_cancel, Nat.div_one, List.range'_succ, List.range'_zero, List.forIn_cons, List.forIn_nil]
  by_cases h0 : a0 = b0
  · subst h0
    by_cases h1 : a1 = b1
    · subst h1
      by_cases h2 : a2 = b2
      · subst h2
        by_cases h3 : a3 = b3
        · subst h3; go_simp
        · go_simp
      · go_simp
    · go_simp
  · go_simp
theorem eq_num (d : Nat) {x y : Int} (hx : Num x) (hy : Num y) (w : World) : (Op.equalIn (d + 2) 24 (.agg #[.int .u64 (l0 x), .int .u64 (l1 x), .int .u64 (l2 x), .int .u64 (l3 x)]) (.agg #[.int .u64 (l0 y), .int .u64 (l1 y), .int .u64 (l2 y), .int .u64 (l3 y)])).run Tryd.prog w = .ok (decide (x = y)) w := by
  rw [eq_lim]
  congr 1
  by_cases h : x = y
  · subst h; simp
  · rw [decide_eq_false h]
    by_cases h0 : l0 x = l0 y
    · by_cases h1 : l1 x = l1 y
      · by_cases h2 : l2 x = l2 y
        · by_cases h3 : l3 x = l3 y
          · exact absurd (by rw [← num_l hx, ← num_l hy, h0, h1, h2, h3]) h
          · simp [h3]
        · simp [h2]
      · simp [h1]
    · simp [h0]
theorem eq_w (d : Nat) (x y : Int) (w : World) : (Op.equalIn (d + 1) 22 (.int .u64 x) (.int .u64 y)).run Tryd.prog w = .ok (decide (x = y)) w := by
  rw [run_equalIn_int _ _ _ _ _ _ _ Tryd.underlying22]
  rfl
/-- A field more. -/
theorem eqf_step {d : Nat} {M N : Array Value} {f : Field} {fs : List Field} {v u : Value} {r s : Bool} {w : World} (hn : f.name ≠ "_") (hp : (part f.type M f.offset).run Tryd.prog w = .ok v w) (hq : (part f.type N f.offset).run Tryd.prog w = .ok u w) (he : (Op.equalIn d f.type v u).run Tryd.prog w = .ok r w) (h : (Op.eqFields d M N fs).run Tryd.prog w = .ok s w) : (Op.eqFields d M N (f :: fs)).run Tryd.prog w = .ok (r && s) w := by
  rw [Op.eqFields, if_pos hn]
  simp only [Sem.run_bind, hp, hq, he, Result.andThen_ok]
  cases r with
  | true => simpa using h
  | false => simp
/-- The same authorization? -/
def sameA (u v : Aun) : Bool := decide (u.ch = v.ch) && (decide (u.adr = v.adr) && (decide (u.no = v.no) && (decide (u.pa = v.pa) && (decide (u.r = v.r) && (decide (u.s = v.s) && true)))))
theorem sameA_iff {u v : Aun} : sameA u v = true ↔ u = v := by
  obtain ⟨a1, a2, a3, a4, a5, a6⟩ := u
  obtain ⟨b1, b2, b3, b4, b5, b6⟩ := v
  simp [sameA]
theorem ext_4 {L : List Value} {i : Nat} {x0 x1 x2 x3 : Value} (h0 : L[i]? = some x0) (h1 : L[i + 1]? = some x1) (h2 : L[i + 2]? = some x2) (h3 : L[i + 3]? = some x3) : L.toArray.extract i (i + 4) = #[x0, x1, x2, x3] := by
  apply Array.toList_inj.1
  rw [Array.toList_extract]
  apply List.ext_getElem?
  intro j
  simp only [List.extract, Nat.add_sub_cancel_left, List.getElem?_take, List.getElem?_drop]
  match j with
  | 0 => simpa using h0
  | 1 => simpa using h1
  | 2 => simpa using h2
  | 3 => simpa using h3
  | j + 4 =>
    simp only [show ¬ (j + 4 < 4) by omega, if_false]
    simp
theorem part_num {L : List Value} {i : Nat} {x : Int} (h0 : L[i]? = some (.int .u64 (l0 x))) (h1 : L[i + 1]? = some (.int .u64 (l1 x))) (h2 : L[i + 2]? = some (.int .u64 (l2 x))) (h3 : L[i + 3]? = some (.int .u64 (l3 x))) (w : World) : (part 24 L.toArray i).run Tryd.prog w = .ok (.agg #[.int .u64 (l0 x), .int .u64 (l1 x), .int .u64 (l2 x), .int .u64 (l3 x)]) w := by
  have ta := Tryd.isAgg24
  have tz := Tryd.sizeOf24
  have e := ext_4 h0 h1 h2 h3
  generalize L.toArray = M at *
  simp [Go.part, go_sem, ta, tz, e]
theorem part_w {L : List Value} {i : Nat} {x : Int} (h : L[i]? = some (.int .u64 x)) (w : World) : (part 22 L.toArray i).run Tryd.prog w = .ok (.int .u64 x) w := by
  have ta := Tryd.isAgg22
  have h0 : L.toArray[i]? = some (.int .u64 x) := by simpa using h
  generalize L.toArray = M at *
  simp [Go.part, go_sem, ta, h0]
theorem aun_tail {u : Aun} (h : u.adr.length = 20) (j : Nat) : (aunC u)[24 + j]? = [Value.int .u64 u.no, .int .u64 u.pa, .int .u64 (l0 u.r), .int .u64 (l1 u.r), .int .u64 (l2 u.r), .int .u64 (l3 u.r), .int .u64 (l0 u.s), .int .u64 (l1 u.s), .int .u64 (l2 u.s), .int .u64 (l3 u.s)][j]? := by
  unfold aunC
  rw [List.getElem?_append_right (by simp; omega), List.getElem?_append_right (by rw [hC_len, h]; simp; omega), hC_len, h]
  congr 1
  simp
  omega
theorem part_adA {u : Aun} (h : u.adr.length = 20) (w : World) : (part 26 (aunC u).toArray 4).run Tryd.prog w = .ok (.agg (hC u.adr).toArray) w := by
  have ta := Tryd.isAgg26
  have tz := Tryd.sizeOf26
  have e : (aunC u).toArray.extract 4 24 = (hC u.adr).toArray := by
    apply Array.toList_inj.1
    rw [Array.toList_extract]
    simp only [List.extract]
    rw [show aunC u = [.int .u64 (l0 u.ch), .int .u64 (l1 u.ch), .int .u64 (l2 u.ch), .int .u64 (l3 u.ch)] ++ (hC u.adr ++ _) from rfl, List.drop_append_of_le_length (by simp)]
    have hl : (hC u.adr).length = 24 - 4 := by rw [hC_len, h]
    simp [← hl]
  generalize (aunC u).toArray = M at *
  simp [Go.part, go_sem, ta, tz, e]
set_option maxRecDepth 100000 in
set_option maxHeartbeats 4000000 in
theorem eq_aun {u v : Aun} (hu : AunG u) (hv : AunG v) (w : World) : (Op.equalIn 10000 56 (.agg (aunC u).toArray) (.agg (aunC v).toArray)).run Tryd.prog w = .ok (sameA u v) w := by
  have tf : (Tryd.prog.fieldsOf 56) = #[{ name := "Chain", type := 24, offset := 0, embedded := false, tag := "", pkgPath := "", byteOffset := 0 }, { name := "Address", type := 26, offset := 4, embedded := false, tag := "", pkgPath := "", byteOffset := 32 }, { name := "Nonce", type := 22, offset := 24, embedded := false, tag := "", pkgPath := "", byteOffset := 56 }, { name := "Parity", type := 22, offset := 25, embedded := false, tag := "", pkgPath := "", byteOffset := 64 }, { name := "R", type := 24, offset := 26, embedded := false, tag := "", pkgPath := "", byteOffset := 72 }, { name := "S", type := 24, offset := 30, embedded := false, tag := "", pkgPath := "", byteOffset := 104 }] := by
    unfold Program.fieldsOf; rw [Tryd.underlying56]
  have p0 : ∀ x : Aun, (part 24 (aunC x).toArray 0).run Tryd.prog w = .ok (.agg #[.int .u64 (l0 x.ch), .int .u64 (l1 x.ch), .int .u64 (l2 x.ch), .int .u64 (l3 x.ch)]) w := fun x => part_num rfl rfl rfl rfl w
  have p1 := fun (x : Aun) (h : x.adr.length = 20) => part_adA h w
  have p2 : ∀ x : Aun, x.adr.length = 20 → (part 22 (aunC x).toArray 24).run Tryd.prog w = .ok (.int .u64 x.no) w := fun x h => part_w (aun_tail h 0) w
  have p3 : ∀ x : Aun, x.adr.length = 20 → (part 22 (aunC x).toArray 25).run Tryd.prog w = .ok (.int .u64 x.pa) w := fun x h => part_w (aun_tail h 1) w
  have p4 : ∀ x : Aun, x.adr.length = 20 → (part 24 (aunC x).toArray 26).run Tryd.prog w = .ok (.agg #[.int .u64 (l0 x.r), .int .u64 (l1 x.r), .int .u64 (l2 x.r), .int .u64 (l3 x.r)]) w := fun x h => part_num (aun_tail h 2) (aun_tail h 3) (aun_tail h 4) (aun_tail h 5) w
  have p5 : ∀ x : Aun, x.adr.length = 20 → (part 24 (aunC x).toArray 30).run Tryd.prog w = .ok (.agg #[.int .u64 (l0 x.s), .int .u64 (l1 x.s), .int .u64 (l2 x.s), .int .u64 (l3 x.s)]) w := fun x h => part_num (aun_tail h 6) (aun_tail h 7) (aun_tail h 8) (aun_tail h 9) w
  have hU : Tryd.prog.underlying 56 = some (.struct (Tryd.prog.fieldsOf 56)) := by rw [tf]; exact Tryd.underlying56
  rw [show (10000 : Nat) = 9999 + 1 from rfl, run_equalIn_struct w 9999 _ _ _ hU (by kernel_rfl), tf]
  clear tf hU
  have ku := hu.2.1.1
  have kv := hv.2.1.1
  exact eqf_step (by decide) (p0 u) (p0 v) (eq_num 9997 hu.1 hv.1 w) (eqf_step (by decide) (p1 u ku) (p1 v kv) (eq_arr 9997 Tryd.underlying26 ku kv w) (eqf_step (by decide) (p2 u ku) (p2 v kv) (eq_w 9998 _ _ w) (eqf_step (by decide) (p3 u ku) (p3 v kv) (eq_w 9998 _ _ w) (eqf_step (by decide) (p4 u ku) (p4 v kv) (eq_num 9997 hu.2.2.2.2.1 hv.2.2.2.2.1 w) (eqf_step (by decide) (p5 u ku) (p5 v kv) (eq_num 9997 hu.2.2.2.2.2 hv.2.2.2.2.2 w) rfl)))))
end Go.Proofs.YtllfmlgnemkklaaDoor.tq
