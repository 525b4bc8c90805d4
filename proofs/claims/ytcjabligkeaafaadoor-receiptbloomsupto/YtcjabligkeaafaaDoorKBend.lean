import Derived.Test.YtcjabligkeaafaaDoorKTurn
namespace Go.Proofs.YtcjabligkeaafaaDoor.K
open Go.RowKit Go.Sort

set_option maxHeartbeats 1000000 in
theorem bend_any {b y : Nat} {L : List (BitVec 64)} (p q r s t : BitVec 64) (hy : y + 4 < L.length) (hl : L.length ≤ 25) (w : World) (hL : Lns w b L) (hf : Loose w b L.length) :
    Calls Tryd.prog 29 #[.pointer (some ⟨b, 0, none⟩), .int .i64 y, .int .u64 (V p), .int .u64 (V q), .int .u64 (V r), .int .u64 (V s), .int .u64 (V t)] w fun e w' => e = .returned (.tuple #[]) ∧
      Lns w' b (((((L.set y (p ^^^ (~~~q &&& r))).set (y + 1) (q ^^^ (~~~r &&& s))).set (y + 2) (r ^^^ (~~~s &&& t))).set (y + 3) (s ^^^ (~~~t &&& p))).set (y + 4) (t ^^^ (~~~p &&& q))) ∧ Loose w' b L.length ∧ Off b w w' := by
  have n0 := V_not' q; have m0 := V_not q; have a0 := V_and (~~~q) r; have x0 := V_xor p (~~~q &&& r)
  have n1 := V_not' r; have m1 := V_not r; have a1 := V_and (~~~r) s; have x1 := V_xor q (~~~r &&& s)
  have n2 := V_not' s; have m2 := V_not s; have a2 := V_and (~~~s) t; have x2 := V_xor r (~~~s &&& t)
  have n3 := V_not' t; have m3 := V_not t; have a3 := V_and (~~~t) p; have x3 := V_xor s (~~~t &&& p)
  have n4 := V_not' p; have m4 := V_not p; have a4 := V_and (~~~p) q; have x4 := V_xor t (~~~p &&& q)
  have b0 : (y : Int) < 25 := by omega
  have g0 := hL y (by omega); have g1 := hL (y + 1) (by omega); have g2 := hL (y + 2) (by omega); have g3 := hL (y + 3) (by omega); have g4 := hL (y + 4) (by omega)
  have f0 := hf y (by omega); have f1 := hf (y + 1) (by omega); have f2 := hf (y + 2) (by omega); have f3 := hf (y + 3) (by omega); have f4 := hf (y + 4) (by omega)
  go_enter Tryd.func29, Tryd.ntmps29
  go_wp2
  all_goals go_end0
  all_goals refine ⟨rfl, ?_, ((((hf.set _ _).set _ _).set _ _).set _ _).set _ _, (((((Off.refl b w).setCell _).setCell _).setCell _).setCell _).setCell _⟩
  all_goals refine ((((hL.set y (by omega) _).set (y + 1) ?_ _).set (y + 2) ?_ _).set (y + 3) ?_ _).set (y + 4) ?_ _
  all_goals simp only [List.length_set]
  all_goals omega

end Go.Proofs.YtcjabligkeaafaaDoor.K
