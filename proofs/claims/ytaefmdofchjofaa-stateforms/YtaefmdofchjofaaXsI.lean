import Derived.Test.YtaefmdofchjofaaXsD
import Derived.Laws.StructEq
/- Layer 21: an account is the same as itself. -/
namespace Go.Proofs.Ytaefmdofchjofaa
open Go.RowKit Go.Sort
theorem part_iS {X : List Int} {i : Nat} (h : i < X.length) (w : World) : (part 5 (u8L X).toArray (i * 1)).run Try.prog w = .ok (.int .u8 (X.getD i 0)) w := by
  have ta := Try.isAgg5
  unfold u8L
  rw [Nat.mul_one]
  simp [Go.part, go_sem, ta, h]
theorem eq_loopS {X : List Int} (w : World) : ∀ (m s : Nat), s + m ≤ X.length →
    (forIn (m := Sem) (List.range' s m) ((none : Option Bool), ()) fun i _ => do
      let x ← part 5 (u8L X).toArray (i * 1)
      let y ← part 5 (u8L X).toArray (i * 1)
      let b ← Op.equalIn 9998 5 x y
      if (!b) = true then pure (ForInStep.done (some false, ())) else pure (ForInStep.yield (none, ()))).run Try.prog w = .ok (none, ()) w
  | 0, s, _ => by simp
  | m + 1, s, h1 => by
    have tu := Try.underlying5
    rw [List.range'_succ, List.forIn_cons]
    simp only [Sem.run_bind, part_iS (show s < X.length by omega), Result.andThen_ok]
    rw [show (9998 : Nat) = 9997 + 1 from rfl, run_equalIn_int _ _ _ _ _ _ _ tu]
    simp only [Result.andThen_ok]
    have ih := eq_loopS (X := X) w m (s + 1) (by omega)
    generalize X.getD s 0 = a at *
    simp only [beq_self_eq_true, Bool.not_true, Bool.false_eq_true, if_false, Sem.run_pure, Result.andThen_ok]
    exact ih
theorem eq_ha9 {X : List Int} (hx : X.length = 32) (w : World) : (Op.equalIn 9999 26 (.agg (u8L X).toArray) (.agg (u8L X).toArray)).run Try.prog w = .ok true w := by
  rw [show (9999 : Nat) = 9998 + 1 from rfl, Op.equalIn]
  have tz : (sizeOf 5).run Try.prog w = .ok 1 w := by have := Try.sizeOf5; simp [go_sem, this]
  simp only [Sem.run_bind, run_underlying Try.underlying26, Result.andThen_ok, tz]
  simp only [Std.Legacy.Range.forIn_eq_forIn_range', Std.Legacy.Range.size, Nat.sub_zero, Nat.add_sub_cancel, Nat.div_one]
  have h := eq_loopS (X := X) w 32 0 (by omega)
  rw [h]
  simp
theorem eq_nu9 (a0 a1 a2 a3 : Int) (w : World) : (Op.equalIn 9999 24 (.agg #[.int .u64 a0, .int .u64 a1, .int .u64 a2, .int .u64 a3]) (.agg #[.int .u64 a0, .int .u64 a1, .int .u64 a2, .int .u64 a3])).run Try.prog w = .ok true w := by
  have tu := Try.underlying22
  have ta := Try.isAgg22
  have tz := Try.sizeOf22
  rw [show (9999 : Nat) = 9998 + 1 from rfl, Op.equalIn]
  simp only [Sem.run_bind, run_underlying Try.underlying24, Result.andThen_ok]
  simp only [Std.Legacy.Range.forIn_eq_forIn_range', Std.Legacy.Range.size, Nat.sub_zero, Nat.add_sub_cancel, Nat.div_one, List.range'_succ, List.range'_zero, List.forIn_cons, List.forIn_nil]
  go_simp
theorem ex_num {n b : Int} {S C : List Value} : (acM n b S C).toArray.extract 1 (1 + 4) = #[.int .u64 (l0 b), .int .u64 (l1 b), .int .u64 (l2 b), .int .u64 (l3 b)] := by
  apply Array.toList_inj.1
  rw [Array.toList_extract]
  simp [acM]
theorem ex_sto {n b : Int} {S C : List Value} (hS : S.length = 32) : (acM n b S C).toArray.extract 5 (5 + 32) = S.toArray := by
  apply Array.toList_inj.1
  rw [Array.toList_extract]
  simp [acM, List.extract, ← hS]
theorem ex_cod {n b : Int} {S C : List Value} (hS : S.length = 32) (hC : C.length = 32) : (acM n b S C).toArray.extract 37 (37 + 32) = C.toArray := by
  apply Array.toList_inj.1
  rw [Array.toList_extract]
  have e : acM n b S C = (.int .u64 n :: .int .u64 (l0 b) :: .int .u64 (l1 b) :: .int .u64 (l2 b) :: .int .u64 (l3 b) :: S) ++ C := rfl
  rw [e, List.extract]
  simp only [Nat.add_sub_cancel_left]
  rw [List.drop_append_of_le_length (by simp [hS]), List.drop_eq_nil_of_le (by simp [hS]), List.nil_append, ← hC, List.take_length]
theorem pt_0 {n b : Int} {S C : List Value} (w : World) : (part 22 (acM n b S C).toArray 0).run Try.prog w = .ok (.int .u64 n) w := by
  have ta := Try.isAgg22
  have h0 : (acM n b S C).toArray[0]? = some (.int .u64 n) := rfl
  generalize (acM n b S C).toArray = M at *
  simp [Go.part, go_sem, ta, h0]
theorem pt_1 {n b : Int} {S C : List Value} (w : World) : (part 24 (acM n b S C).toArray 1).run Try.prog w = .ok (.agg #[.int .u64 (l0 b), .int .u64 (l1 b), .int .u64 (l2 b), .int .u64 (l3 b)]) w := by
  have ta := Try.isAgg24
  have tz := Try.sizeOf24
  have e := ex_num (n := n) (b := b) (S := S) (C := C)
  simp only [Nat.reduceAdd] at e
  generalize (acM n b S C).toArray = M at *
  simp [Go.part, go_sem, ta, tz, e]
theorem pt_2 {n b : Int} {S C : List Value} (hS : S.length = 32) (w : World) : (part 26 (acM n b S C).toArray 5).run Try.prog w = .ok (.agg S.toArray) w := by
  have ta := Try.isAgg26
  have tz := Try.sizeOf26
  have e := ex_sto (n := n) (b := b) (C := C) hS
  simp only [Nat.reduceAdd] at e
  generalize (acM n b S C).toArray = M at *
  simp [Go.part, go_sem, ta, tz, e]
theorem pt_3 {n b : Int} {S C : List Value} (hS : S.length = 32) (hC : C.length = 32) (w : World) : (part 26 (acM n b S C).toArray 37).run Try.prog w = .ok (.agg C.toArray) w := by
  have ta := Try.isAgg26
  have tz := Try.sizeOf26
  have e := ex_cod (n := n) (b := b) hS hC
  simp only [Nat.reduceAdd] at e
  generalize (acM n b S C).toArray = M at *
  simp [Go.part, go_sem, ta, tz, e]
theorem eq_w9 (n : Int) (w : World) : (Op.equalIn 9999 22 (.int .u64 n) (.int .u64 n)).run Try.prog w = .ok true w := by
  rw [show (9999 : Nat) = 9998 + 1 from rfl, run_equalIn_int _ _ _ _ _ _ _ Try.underlying22]
  simp
/-- The same field on both sides. -/
theorem eqf_cons {d : Nat} {M : Array Value} {f : Field} {fs : List Field} {v : Value} {w : World} (hn : f.name ≠ "_") (hp : (part f.type M f.offset).run Try.prog w = .ok v w) (he : (Op.equalIn d f.type v v).run Try.prog w = .ok true w) (h : (Op.eqFields d M M fs).run Try.prog w = .ok true w) : (Op.eqFields d M M (f :: fs)).run Try.prog w = .ok true w := by
  rw [Op.eqFields, if_pos hn]
  simp only [Sem.run_bind, hp, he, Result.andThen_ok, Bool.not_true, Bool.false_eq_true, if_false]
  exact h
set_option maxRecDepth 100000 in
set_option maxHeartbeats 4000000 in
theorem eq_acc {n b : Int} {S C : List Int} (hS : S.length = 32) (hC : C.length = 32) (w : World) :
    (Op.equalIn 10000 28 (.agg (acM n b (u8L S) (u8L C)).toArray) (.agg (acM n b (u8L S) (u8L C)).toArray)).run Try.prog w = .ok true w := by
  have tf : (Try.prog.fieldsOf 28) = #[{ name := "Nonce", type := 22, offset := 0, embedded := false, tag := "", pkgPath := "", byteOffset := 0 }, { name := "Balance", type := 24, offset := 1, embedded := false, tag := "", pkgPath := "", byteOffset := 8 }, { name := "Storage", type := 26, offset := 5, embedded := false, tag := "", pkgPath := "", byteOffset := 40 }, { name := "Code", type := 26, offset := 37, embedded := false, tag := "", pkgPath := "", byteOffset := 72 }] := by
    unfold Program.fieldsOf; rw [Try.underlying28]
  have hS' : (u8L S).length = 32 := by rw [u8L, List.length_map]; exact hS
  have hC' : (u8L C).length = 32 := by rw [u8L, List.length_map]; exact hC
  have p0 := pt_0 (n := n) (b := b) (S := u8L S) (C := u8L C) w
  have p1 := pt_1 (n := n) (b := b) (S := u8L S) (C := u8L C) w
  have p2 := pt_2 (n := n) (b := b) (S := u8L S) (C := u8L C) hS' w
  have p3 := pt_3 (n := n) (b := b) (S := u8L S) (C := u8L C) hS' hC' w
  generalize (acM n b (u8L S) (u8L C)).toArray = M at *
  have hU : Try.prog.underlying 28 = some (.struct (Try.prog.fieldsOf 28)) := by rw [tf]; exact Try.underlying28
  rw [show (10000 : Nat) = 9999 + 1 from rfl, run_equalIn_struct w 9999 _ _ _ hU (by kernel_rfl), tf]
  clear tf hU
  exact eqf_cons (by decide) p0 (eq_w9 n w) (eqf_cons (by decide) p1 (eq_nu9 _ _ _ _ w) (eqf_cons (by decide) p2 (eq_ha9 hS w) (eqf_cons (by decide) p3 (eq_ha9 hC w) rfl)))
theorem z32_u8 : z32 = u8L (List.replicate 32 0) := by simp [z32, u8L]
theorem eq_pa (A : List Int) (w : World) : (Op.equalIn 10000 28 (.agg (paM A).toArray) (.agg (paM A).toArray)).run Try.prog w = .ok true w := by
  unfold paM
  split
  · rename_i h
    exact eq_acc (fi_len h.2.2.2.2.2.2.1) (fi_len h.2.2.2.2.2.2.2) w
  · unfold acZ
    rw [z32_u8]
    exact eq_acc (by simp) (by simp) w
end Go.Proofs.Ytaefmdofchjofaa
