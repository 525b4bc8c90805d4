import Derived.Test.YtongiohdomacoaaAcG
/- Layer 14: entries built; make of entries, of keys. -/
namespace Go.Proofs.Ytongiohdomacoaa
open Go.RowKit Go.Sort

theorem built_20 (c0 c1 c2 c3 c4 c5 c6 c7 c8 c9 c10 c11 c12 c13 c14 c15 c16 c17 c18 c19 : Value) (a : Option Addr) (n c : Nat) : Try.prog.built 36 [(0, .agg #[c0, c1, c2, c3, c4, c5, c6, c7, c8, c9, c10, c11, c12, c13, c14, c15, c16, c17, c18, c19]), (1, .slice a n c)] = some #[c0, c1, c2, c3, c4, c5, c6, c7, c8, c9, c10, c11, c12, c13, c14, c15, c16, c17, c18, c19, .slice a n c] := by kernel_rfl
theorem built_en {ca : List Value} (hl : ca.length = 20) (a : Option Addr) (n c : Nat) : Try.prog.built 36 [(0, .agg ca.toArray), (1, .slice a n c)] = some (ca ++ [Value.slice a n c]).toArray := by
  match ca, hl with
  | [c0, c1, c2, c3, c4, c5, c6, c7, c8, c9, c10, c11, c12, c13, c14, c15, c16, c17, c18, c19], _ => exact built_20 c0 c1 c2 c3 c4 c5 c6 c7 c8 c9 c10 c11 c12 c13 c14 c15 c16 c17 c18 c19 a n c
theorem quiet_build_en {C : World → Prop} {a : Act} {o : Oper} {K : Act → Prop} {x y : Operand} {sa : Option Addr} {n c : Nat} {ca : List Value} (hl : ca.length = 20) (ho : o.op = .build 36 #[(0, x), (1, y)]) (hx : a.eval x = .agg ca.toArray) (hy : a.eval y = .slice sa n c)
    (h : K (a.put o.dst (.agg (ca ++ [Value.slice sa n c]).toArray))) : o.quiet Try.prog a C K := by
  refine ⟨.agg (ca ++ [Value.slice sa n c]).toArray, fun w _ => ?_, h⟩
  have e : ((#[(0, x), (1, y)] : Array (Nat × Operand)).map fun (i, x) => (i, a.eval x)).toList = [(0, .agg ca.toArray), (1, .slice sa n c)] := by simp [hx, hy]
  have hr := run_build (P := Try.prog) w 36 ((#[(0, x), (1, y)] : Array (Nat × Operand)).map fun (i, x) => (i, a.eval x)) _ (by rw [e]; exact built_en hl sa n c)
  unfold Oper.quietAt execOp
  simp only [ho, Sem.run_bind, hr, Result.andThen_ok]
  exact ⟨rfl, rfl⟩
theorem info_en : (Try.prog.info? 36).map (fun i => (i.zero, i.size, i.bytes)) = some (some (.agg #[.int .u8 0, .int .u8 0, .int .u8 0, .int .u8 0, .int .u8 0, .int .u8 0, .int .u8 0, .int .u8 0, .int .u8 0, .int .u8 0, .int .u8 0, .int .u8 0, .int .u8 0, .int .u8 0, .int .u8 0, .int .u8 0, .int .u8 0, .int .u8 0, .int .u8 0, .int .u8 0, .slice none 0 0]), 21, 48) := by kernel_rfl
theorem info_ha : (Try.prog.info? 26).map (fun i => (i.zero, i.size, i.bytes)) = some (some (.agg (List.replicate 32 (Value.int .u8 0)).toArray), 32, 32) := by kernel_rfl
theorem info_partsE {i : Option TypeInfo} {z : Option Value} {s b : Nat} (h : i.map (fun i => (i.zero, i.size, i.bytes)) = some (z, s, b)) : ∃ j, i = some j ∧ j.zero = z ∧ j.size = s ∧ j.bytes = b := by
  cases i with
  | none => simp at h
  | some j => simp at h; exact ⟨j, rfl, h.1, h.2.1, h.2.2⟩
theorem madeE {k : Nat} (hk : 0 < k) (n : Nat) (z : Value) : madeCells (List.replicate k z).toArray n = (List.replicate n z).toArray := by
  unfold madeCells
  apply Array.ext
  · simp
  · intro i h1 h2
    have h : i % k < k := Nat.mod_lt _ hk
    simp [getElem!_pos, h]
theorem wpList_make_keys (w : World) {ops : Array Oper} {rest : List Oper} {o : Oper} {a : Act} {Q : Exit → Act → World → Prop}
    (hg : o.guard = none) (l c : Operand) (hop : o.op = Op.makeSlice 34 l c)
    (kl kc : IntKind) (L C : Int) (m : Nat) (hl : a.eval l = .int kl L) (hc : a.eval c = .int kc C) (eL : L = (m : Int)) (eC : C = (m : Int)) (hm : m ≤ 6000000000000)
    (hK : wpList Try.prog ops Q rest (a.put o.dst (.slice (some ⟨w.heap.size, 0, none⟩) m m)) (w.alloc (.cells (List.replicate (m * 32) (Value.int .u8 0)).toArray 26))) :
    wpList Try.prog ops Q (o :: rest) a w := by
  subst eL eC
  obtain ⟨i, hi, hz, hs, hby⟩ := info_partsE info_ha
  refine wpList_plain hg fun K hK' => ?_
  have hr := run_make (P := Try.prog) w 34 26 i _ Try.underlying34 hi hz kl kc m m (by omega) (by omega) (by rw [hby]; omega) (by omega)
  have ez : (Value.agg (List.replicate 32 (Value.int .u8 0)).toArray).cells = (List.replicate 32 (Value.int .u8 0)).toArray := rfl
  rw [Int.toNat_natCast, hs, ez, madeE (by decide)] at hr
  unfold Oper.wp
  generalize (List.replicate (m * 32) (Value.int .u8 0)).toArray = Z at *
  simp [execOp, hop, hl, hc, hr, Result.andThen]
  exact hK' _ _ hK
theorem wpList_make_ens (w : World) {ops : Array Oper} {rest : List Oper} {o : Oper} {a : Act} {Q : Exit → Act → World → Prop}
    (hg : o.guard = none) (l c : Operand) (hop : o.op = Op.makeSlice 22 l c)
    (kl kc : IntKind) (L C : Int) (m : Nat) (hl : a.eval l = .int kl L) (hc : a.eval c = .int kc C) (eL : L = (m : Int)) (eC : C = (m : Int)) (hm : m ≤ 4000000000000)
    (hK : ∀ cs : Array Value, cs.size = m * 21 → wpList Try.prog ops Q rest (a.put o.dst (.slice (some ⟨w.heap.size, 0, none⟩) m m)) (w.alloc (.cells cs 36))) :
    wpList Try.prog ops Q (o :: rest) a w := by
  subst eL eC
  obtain ⟨i, hi, hz, hs, hby⟩ := info_partsE info_en
  refine wpList_plain hg fun K hK' => ?_
  have hr := run_make (P := Try.prog) w 22 36 i _ Try.underlying22 hi hz kl kc m m (by omega) (by omega) (by rw [hby]; omega) (by omega)
  rw [Int.toNat_natCast, hs] at hr
  unfold Oper.wp
  obtain ⟨Z, eZ⟩ : ∃ Z, Z = madeCells (Value.agg #[.int .u8 0, .int .u8 0, .int .u8 0, .int .u8 0, .int .u8 0, .int .u8 0, .int .u8 0, .int .u8 0, .int .u8 0, .int .u8 0, .int .u8 0, .int .u8 0, .int .u8 0, .int .u8 0, .int .u8 0, .int .u8 0, .int .u8 0, .int .u8 0, .int .u8 0, .int .u8 0, .slice none 0 0]).cells (m * 21) := ⟨_, rfl⟩
  rw [← eZ] at hr
  have hsz : Z.size = m * 21 := by rw [eZ]; simp [madeCells]
  clear eZ
  simp [execOp, hop, hl, hc, hr, Result.andThen]
  exact hK' _ _ (hK Z hsz)
end Go.Proofs.Ytongiohdomacoaa
