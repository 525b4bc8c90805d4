import Derived.Test.YtjlijohdobknoaaDoorFBatC
import Derived.Test.YtjlijohdobknoaaDoorFFermat
/- FieldBatch: every list. -/
namespace Go.Proofs.YtjlijohdobknoaaDoor
open Go.RowKit Go.Sort

set_option maxRecDepth 100000 in
theorem fbat_long {v k m c : Int} {n cap : Nat} {a : Option Addr} (hk : Kind k m c) (K0 : Hid (∀ w, Calls Tryd.prog 4 #[.int .i64 v] w fun e w' => e = .returned (.int .i64 k) ∧ Below w.heap.size w w')) (w : World) (hm : Mds w) (h6 : 65536 < n) :
    Calls Tryd.prog 3 #[.int .i64 v, .slice a n cap] w fun e w' => e = .returned (.bool true) ∧ Below w.heap.size w w' := by
  have nl : decide ((n : Int) > 65536) = true := by simp; omega
  have HK : Hid (Kind k m c ∧ 65536 < n ∧ Mds w) := ⟨hk, h6, hm⟩
  have hn0 := fnum_eq 2
  clear hk h6 hm
  go_enter Tryd.func3, Tryd.ntmps3
  go_wp2_with fail
  with_reducible refine (K0.out _).mono ?_
  rintro e w1 ⟨rfl, hb⟩
  have B0 : Hid (Below w.heap.size w w1) := hb
  clear hb K0
  go_wp2_with fail
  refine (Inverses_long HK.out.1 HK.out.2.1 w1 (HK.out.2.2.keep B0.out)).mono ?_
  rintro e w2 ⟨rfl, hb⟩
  have B2 : Hid (Below w.heap.size w w2) := B0.out.trans (hb.mono B0.out.size)
  clear hb B0
  go_wp2_with ((with_reducible refine (hn0 _).mono ?_); rintro e9 w9 ⟨rfl, hw9⟩; (rw [hw9]); (clear hw9 w9))
  go_ret
  exact ⟨rfl, B2.out⟩
theorem fbat_all {v : Int} {g o cap : Nat} {a : Option Addr} {L : List Int} (hN : ∀ i, i < L.length → Num (L.getD i 0)) (ha : At4 a g o L) (w : World) (hm : Mds w) (hI : Nms w g o L) :
    Calls Tryd.prog 3 #[.int .i64 v, .slice a L.length cap] w fun e w' => e = .returned (.bool true) ∧ Below w.heap.size w w' := by
  obtain ⟨k, hk, hK⟩ := fkind_any v
  obtain ⟨g', o', ha', hI', hg'⟩ := nms_lt hm ha hI
  rcases hk with rfl | rfl
  · by_cases h6 : L.length ≤ 65536
    · exact fbat_any kind_p prm_p hK rfl hN ha' w hm hI' hg' h6
    · exact fbat_long kind_p hK w hm (by omega)
  · by_cases h6 : L.length ≤ 65536
    · exact fbat_any kind_n prm_n hK rfl hN ha' w hm hI' hg' h6
    · exact fbat_long kind_n hK w hm (by omega)
end Go.Proofs.YtjlijohdobknoaaDoor
