import Derived.Test.YtllfmlgnemkklaaDoorTsH
import Derived.Test.YtllfmlgnemkklaaDoorFgB
import Derived.Test.YtllfmlgnemkklaaDoorFxSh
/- Layer 18: the plain transaction, and that it lives. -/
namespace Go.Proofs.YtllfmlgnemkklaaDoor
open Go.RowKit Go.Sort
open tq
def plT : Txv where
  ty := 2
  ch := 1
  no := 0
  pr := 0
  ti := 2
  ca := 10
  gas := 21000
  cr := false
  to := List.replicate 20 0
  va := 0
  Da := none
  Db := 0
  Do := 0
  Dc := 0
  Dl := []
  Ea := none
  Eb := 0
  Eo := 0
  Ec := 0
  El := []
  bc := 0
  Hsa := none
  Hsb := 0
  Hso := 0
  Hsc := 0
  Hsl := []
  Ua := none
  Ub := 0
  Uo := 0
  Uc := 0
  Ul := []
  sv := 0
  sr := 0
  ss := 0
theorem plT_G (W : World) : TxG W plT where
  ty := by decide
  ch := ⟨by decide, by decide⟩
  no := ⟨by decide, by decide⟩
  pr := ⟨by decide, by decide⟩
  ti := ⟨by decide, by decide⟩
  ca := ⟨by decide, by decide⟩
  gas := ⟨by decide, by decide⟩
  to := ⟨rfl, fun x hx => by obtain rfl := List.eq_of_mem_replicate hx; exact ⟨by decide, by decide⟩⟩
  va := ⟨by decide, by decide⟩
  D := ⟨⟨Nat.le_refl _, fun _ => rfl⟩, .inl rfl, fun i hi => absurd hi (Nat.not_lt_zero _), fun x hx => absurd hx List.not_mem_nil⟩
  E := ⟨⟨Nat.le_refl _, fun _ => rfl⟩, .inl rfl, fun i hi => absurd hi (Nat.not_lt_zero _)⟩
  bc := ⟨by decide, by decide⟩
  Hs := ⟨⟨Nat.le_refl _, fun _ => rfl⟩, .inl rfl, fun i hi => absurd hi (Nat.not_lt_zero _)⟩
  U := ⟨⟨Nat.le_refl _, fun _ => rfl⟩, .inl rfl, fun i hi => absurd hi (Nat.not_lt_zero _)⟩
  sv := ⟨by decide, by decide⟩
  sr := ⟨by decide, by decide⟩
  ss := ⟨by decide, by decide⟩
theorem plT_df : dfN plT = 0 := by decide
theorem plT_pr : prE plT 9 = 0 ∧ prP plT 9 = 10 ∧ prT plT 9 = 1 := by
  refine ⟨?_, ?_, ?_⟩ <;> decide
theorem wpList_buildP {ops : Array Oper} {rest : List Oper} {o : Oper} {a : Act} {Q : Exit → Act → World → Prop} {w : World} (T : TypeId) (fs : Array (Nat × Operand)) (l : List (Nat × Value)) (R : Array Value) (hb : Tryd.prog.built T l = some R) (hgd : o.guard = none)
    (ho : o.op = .build T fs) (e : (fs.map fun (i, x) => (i, a.eval x)).toList = l) (h : wpList Tryd.prog ops Q rest (a.put o.dst (.agg R)) w) : wpList Tryd.prog ops Q (o :: rest) a w := by
  refine wpList_plain hgd fun K hK => ?_
  have hr := run_build (P := Tryd.prog) w T (fs.map fun (i, x) => (i, a.eval x)) _ (by rw [e]; exact hb)
  have hr2 : (execOp a.eval o).run Tryd.prog w = .ok (.value (.agg R)) w := by
    unfold execOp
    simp only [ho, Sem.run_bind, hr, Result.andThen_ok]
    rfl
  unfold Oper.wp
  rw [hr2]
  exact hK _ _ h
theorem build_pl : Tryd.prog.built 32 [(0, .int .i64 2), (1, .int .u64 1), (4, .agg #[.int .u64 2, .int .u64 0, .int .u64 0, .int .u64 0]), (5, .agg #[.int .u64 10, .int .u64 0, .int .u64 0, .int .u64 0]), (6, .int .u64 21000)] = some (txC plT).toArray := by kernel_rfl
set_option maxRecDepth 100000 in
set_option maxHeartbeats 4000000 in
theorem plain_any (w : World) : Calls Tryd.prog 21 #[.int .u64 2, .int .u64 10, .int .u64 21000] w fun e w' => e = .returned (.agg (txC plT).toArray) ∧ Below w.heap.size w w' := by
  have hb := build_pl
  obtain ⟨M, hM⟩ : ∃ M, M = txC plT := ⟨_, rfl⟩
  have L61 : Hid (M.length = 61) := by show M.length = 61; rw [hM]; exact txC_len rfl
  have UO : Hid (∀ z ∈ M, z.oneCell' = true) := by show ∀ z ∈ M, _; rw [hM]; exact txC_one plT
  rw [← hM] at hb ⊢
  clear hM
  go_enter Tryd.func21, Tryd.ntmps21
  refine wp_seq_k fun K0 h0 => ?_
  have H0 : Hid _ := h0
  clear h0
  go_wp2_with first
    | (refine wpList_allocT rfl 32 rfl (some 6) rfl 61 408 rI_t ?_; intro b2 W2 h2 B2 t2; have HB : Hid (w.heap.size ≤ b2 ∧ b2 < W2.heap.size ∧ Below w.heap.size w W2 ∧ W2.there b2 0 61) := (show _ by have := h2.out; exact ⟨by omega, by omega, B2, t2⟩); clear h2 B2 t2)
  refine H0.out _ _ ?_
  clear H0 K0
  go_wp2_with first
    | (refine wpList_buildP 32 _ _ _ hb rfl rfl (by simp [Act.eval, Act.put]) ?_)
    | (refine wpList_storeT rfl 32 _ _ rfl b2 M rfl rfl (by rw [L61.out]; exact HB.out.2.2.2) (by rw [L61.out]; exact size_txT) UO.out ?_; intro W4 u9 r9 t9)
  have ld := run_loadVar_mid (P := Tryd.prog) W4 b2 0 32 _ _ r9 Tryd.underlying32 rfl (by rw [L61.out]; exact size_txT)
  refine bodyPost_ret (v := .agg M.toArray) ?_ rfl ⟨rfl, u9.below HB.out.1 HB.out.2.2.1⟩
  simp [results, Tryd.results21, asAddr, ld, Act.put]
end Go.Proofs.YtllfmlgnemkklaaDoor
