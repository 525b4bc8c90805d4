import Derived.Test.YtanokeeffbiijaaDoorRcL
/- waybillplay.LentReceipt. -/
namespace Go.Proofs.YtanokeeffbiijaaDoor.tq
open Go.RowKit Go.Sort
theorem list_20R {l : List Int} (h : l.length = 20) : ∃ a0 a1 a2 a3 a4 a5 a6 a7 a8 a9 a10 a11 a12 a13 a14 a15 a16 a17 a18 a19, l = [a0, a1, a2, a3, a4, a5, a6, a7, a8, a9, a10, a11, a12, a13, a14, a15, a16, a17, a18, a19] := by
  match l, h with
  | [a0, a1, a2, a3, a4, a5, a6, a7, a8, a9, a10, a11, a12, a13, a14, a15, a16, a17, a18, a19], _ => exact ⟨a0, a1, a2, a3, a4, a5, a6, a7, a8, a9, a10, a11, a12, a13, a14, a15, a16, a17, a18, a19, rfl⟩
theorem built_lgR (c0 c1 c2 c3 c4 c5 c6 c7 c8 c9 c10 c11 c12 c13 c14 c15 c16 c17 c18 c19 : Value) (a : Option Addr) (n c : Nat) (a2 : Option Addr) (n2 d2 : Nat) : Tryd.prog.built 44 [(0, .agg #[c0, c1, c2, c3, c4, c5, c6, c7, c8, c9, c10, c11, c12, c13, c14, c15, c16, c17, c18, c19]), (1, .slice a n c), (2, .slice a2 n2 d2)] = some #[c0, c1, c2, c3, c4, c5, c6, c7, c8, c9, c10, c11, c12, c13, c14, c15, c16, c17, c18, c19, .slice a n c, .slice a2 n2 d2] := by kernel_rfl
theorem yields_lg {a : Act} {o : Oper} {x y z : Operand} {sa sa2 : Option Addr} {n c n2 d2 : Nat} {c0 c1 c2 c3 c4 c5 c6 c7 c8 c9 c10 c11 c12 c13 c14 c15 c16 c17 c18 c19 : Value} {w : World} (ho : o.op = .build 44 #[(0, x), (1, y), (2, z)]) (hx : a.eval x = .agg #[c0, c1, c2, c3, c4, c5, c6, c7, c8, c9, c10, c11, c12, c13, c14, c15, c16, c17, c18, c19]) (hy : a.eval y = .slice sa n c) (hz : a.eval z = .slice sa2 n2 d2) : (execOp a.eval o).run Tryd.prog w = .ok (.value (.agg #[c0, c1, c2, c3, c4, c5, c6, c7, c8, c9, c10, c11, c12, c13, c14, c15, c16, c17, c18, c19, .slice sa n c, .slice sa2 n2 d2])) w := by
  have e : ((#[(0, x), (1, y), (2, z)] : Array (Nat × Operand)).map fun (i, x) => (i, a.eval x)).toList = [(0, .agg #[c0, c1, c2, c3, c4, c5, c6, c7, c8, c9, c10, c11, c12, c13, c14, c15, c16, c17, c18, c19]), (1, .slice sa n c), (2, .slice sa2 n2 d2)] := by simp [hx, hy, hz]
  have hr := run_build (P := Tryd.prog) w 44 ((#[(0, x), (1, y), (2, z)] : Array (Nat × Operand)).map fun (i, x) => (i, a.eval x)) _ (by rw [e]; exact built_lgR c0 c1 c2 c3 c4 c5 c6 c7 c8 c9 c10 c11 c12 c13 c14 c15 c16 c17 c18 c19 sa n c sa2 n2 d2)
  unfold execOp
  simp only [ho, Sem.run_bind, hr, Result.andThen_ok, Sem.run_pure]
end Go.Proofs.YtanokeeffbiijaaDoor.tq
