import Derived.Test.YtllfmlgnemkklaaDoorFxE
import Derived.Test.YtllfmlgnemkklaaDoorTsN
import Derived.Test.YtllfmlgnemkklaaDoorTsO
/- Layer 18: the statements' twin; what a transaction lent answers. -/
namespace Go.Proofs.YtllfmlgnemkklaaDoor.tq
open Go.RowKit Go.Sort
def BdTF (t : Txv) : Prop := t.Dl.length < 1000000000 ∧ t.Hsl.length < 1000000000 ∧ t.Ul.length < 100000000 ∧ t.El.length < 1000000000 ∧ ∀ i, i < t.El.length → (t.El.getD i zEn).ks.length < 1000000000
end Go.Proofs.YtllfmlgnemkklaaDoor.tq
namespace Go.Proofs.YtllfmlgnemkklaaDoor
open Go.RowKit Go.Sort
open tq
theorem stray_same {u t : Txv} {W : World} (h : LtT W u t) (k f : Nat) : strayT u k f = strayT t k f := by
  unfold strayT blankT
  rw [h.nu.1, h.nu.2.1, h.nu.2.2.1, h.nu.2.2.2.2.1, h.E.1, h.Hs.1, h.U.1]
theorem strays_same {u t : Txv} {W : World} (h : LtT W u t) (k : Nat) : straysT u k = straysT t k := by
  unfold straysT
  rw [show strayT u k = strayT t k from funext fun f => stray_same h k f]
theorem df_same {u t : Txv} {W : World} (h : LtT W u t) : dfN u = dfN t := by
  unfold dfN
  rw [h.sc.1, strays_same h, h.sc.2.1, h.sc.2.2.2.2.1, h.sc.2.2.2.2.2, h.Hs.1, h.U.1]
theorem numF_any (v : Int) (W : World) : Calls Tryd.prog 13 #[.int .i64 v] W fun e w' => e = .returned (.int .i64 v) ∧ Below W.heap.size W w' := by
  go_enter Tryd.func13, Tryd.ntmps13
  go_wp2
  simp [bodyPost, results, Tryd.results13, go_sem]
  exact Below.refl _ _
end Go.Proofs.YtllfmlgnemkklaaDoor
