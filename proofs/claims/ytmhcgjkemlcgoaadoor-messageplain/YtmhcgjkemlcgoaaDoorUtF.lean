import Derived.Test.YtmhcgjkemlcgoaaDoorHxB
import Derived.Test.YtmhcgjkemlcgoaaDoorRows
import Derived.Test.YtmhcgjkemlcgoaaDoorNum
import Derived.WalkKit
import Derived.WalkSpells
import Derived.WalkLawsBesides
import Derived.Laws.Externs
import Derived.Shelf.Spec.BitsCarry
import Derived.Lib.Mul64
import Derived.Laws.Bits64b
import Derived.Test.YtmhcgjkemlcgoaaDoorTail
import Derived.StillTail
import Derived.BigQuiet
import Derived.Lib.QuietBelow
import Derived.Test.YtmhcgjkemlcgoaaDoorShelf
import Derived.LoopN
import Derived.Lib.ItoaNum
import Derived.Test.YtmhcgjkemlcgoaaDoorRef1
import Derived.Test.YtmhcgjkemlcgoaaDoorRefCmp
import Derived.Test.YtmhcgjkemlcgoaaDoorUpAny
import Derived.Test.YtmhcgjkemlcgoaaDoorOut
import Derived.Test.YtmhcgjkemlcgoaaDoorRefLong
import Derived.Deep.RegionHeld3
import Derived.Deep.RegionWith
import Derived.Test.YtmhcgjkemlcgoaaDoorRefDivs
/- Text of the document. -/
namespace Go.Proofs.YtmhcgjkemlcgoaaDoor
open Go.RowKit Go.Sort

theorem num_div {x : Int} (h : Num x) (n : Nat) : Num (x / 10 ^ n) := by
  have p := pow_pos10 n
  exact ⟨Int.ediv_nonneg h.1 (by omega), Int.lt_of_le_of_lt (Int.ediv_le_self _ h.1) h.2⟩
theorem div10 (x : Int) (m : Nat) : x / 10 ^ m / 10 = x / 10 ^ (m + 1) := by
  rw [Int.pow_succ, Int.ediv_ediv_of_nonneg (by have := pow_pos10 m; omega)]
theorem num10 : Num 10 := ⟨by decide, by decide⟩
set_option maxRecDepth 100000 in
set_option maxHeartbeats 8000000 in
theorem rtext_walk {x : Int} {k : Nat} (hx : Num x) (hk : IsLen x k) (hk2 : k ≤ 78) (w : World) : Calls Tryd.prog 13 #[.agg #[.int .u64 (l0 x), .int .u64 (l1 x), .int .u64 (l2 x), .int .u64 (l3 x)]] w fun e w' => e = .returned (.string ⟨(tx x k).toArray⟩) ∧ Below w.heap.size w w' := by
  have HX : Hid (Num x ∧ IsLen x k ∧ k ≤ 78) := ⟨hx, hk, hk2⟩
  have rf := rfrom_any (v := 10) ⟨by decide, by decide⟩
  clear hx hk hk2
  go_enter Tryd.func13, Tryd.ntmps13
  go_wp2_with fail
  with_reducible refine (rf _).mono ?_
  rintro e1 w1 ⟨rfl, hb⟩
  have hV : Var w1 w.heap.size x := Var.keep (Var.new rfl) hb
  have B1 : Below w.heap.size w w1 := ((Below.refl _ _).alloc (Nat.le_refl _) _).trans (hb.mono (by simp))
  clear hb rf
  go_wp2_with fail
  refine wp_world (fun W => Var W w.heap.size (x / 10 ^ 0) ∧ Var W w1.heap.size 10 ∧ Below w.heap.size w W) ⟨by rw [Int.pow_zero, Int.ediv_one]; exact hV.alloc _, Var.new rfl, B1.alloc B1.size _⟩ ?_
  have nb : w.heap.size ≠ w1.heap.size := Nat.ne_of_lt (hV.1.row.lt (by simp))
  generalize w1.heap.size = bn at *
  rintro W hW
  have HW : Hid (Var W w.heap.size (x / 10 ^ 0) ∧ Var W bn 10 ∧ Below w.heap.size w W) := hW
  clear hW hV B1
  obtain ⟨bx, ebx⟩ : ∃ b, b = w.heap.size := ⟨_, rfl⟩
  have HB : Hid (bx = w.heap.size) := ebx
  rw [← ebx] at nb ⊢
  clear ebx
  go_loopg [3, 5] 78 (fun g sv iv wr => ∃ i : Nat, g = 78 - i ∧ i < k ∧ sv = .string ⟨(tx x i).toArray⟩ ∧ iv = .int .i64 (i : Int) ∧ Var wr bx (x / 10 ^ i) ∧ Var wr bn 10 ∧ Below w.heap.size w wr)
  case atStart => exact ⟨0, rfl, HX.out.2.1.1, rfl, rfl, by rw [HB.out]; exact HW.out⟩
  case round =>
    clear HW
    obtain ⟨i, hg, hi, rfl, rfl, hV, hT, hB⟩ := hrel
    have HK : Hid (gk = 78 - i ∧ i < k) := ⟨hg, hi⟩
    have HS : Hid (Var wr bx (x / 10 ^ i) ∧ Var wr bn 10 ∧ Below w.heap.size w wr) := ⟨hV, hT, hB⟩
    have i78 : (i : Int) < 78 := by have := HX.out.2.2; omega
    have dm := fun w => rdivMod_any (num_div HX.out.1 i) num10 (by decide) w
    obtain ⟨c0, c1, c2, c3⟩ := hV.1.cells
    obtain ⟨d0, d1, d2, d3⟩ := hT.1.cells
    clear hg hi hV hT hB
    go_wp2_with fail
    with_reducible refine (dm _).mono ?_
    rintro e1 w2 ⟨rfl, hb⟩
    have HV : Hid (Var w2 bx (x / 10 ^ i) ∧ Var w2 bn 10 ∧ Below w.heap.size w w2) := ⟨HS.out.1.keep hb, HS.out.2.1.keep hb, HS.out.2.2.trans (hb.mono HS.out.2.2.size)⟩
    clear hb dm c0 c1 c2 c3 d0 d1 d2 d3 HS
    obtain ⟨q, Hq⟩ : ∃ y, Hid (y = x / 10 ^ i / 10) := ⟨_, rfl⟩
    obtain ⟨d, Hd⟩ : ∃ y, Hid (y = x / 10 ^ i % 10) := ⟨_, rfl⟩
    rw [← Hq.out, ← Hd.out]
    have hd0 : l0 d = d := by rw [Hd.out]; unfold l0; omega
    have D0 : 0 ≤ d := by rw [Hd.out]; omega
    have D1 : d < 10 := by rw [Hd.out]; omega
    have nq : Num q := by rw [Hq.out, div10]; exact num_div HX.out.1 _
    have cv : ∀ A B : Obj, (convert 22 9 (.slice (some ⟨w2.heap.size + 1 + 1, 0, none⟩) 1 1)).run Tryd.prog (((w2.alloc A).alloc B).alloc (.cells #[.int .u8 (48 + d)] 5)) = .ok (.string ⟨[db d].toArray⟩) (((w2.alloc A).alloc B).alloc (.cells #[.int .u8 (48 + d)] 5)) := fun A B => by
      have r := run_convert_bytes_back (P := Tryd.prog) (((w2.alloc A).alloc B).alloc (.cells #[.int .u8 (48 + d)] 5)) 22 9 5 ⟨w2.heap.size + 1 + 1, 0, none⟩ 1 [db d] Tryd.underlying22 Tryd.underlying5 Tryd.underlying9 (fun j hj => by
        obtain rfl : j = 0 := by simpa using hj
        rw [show ([db d])[0]'hj = db d from rfl, db_nat D0 D1, show (⟨w2.heap.size + 1 + 1, 0, none⟩ : Addr).add 0 = ⟨((w2.alloc A).alloc B).heap.size, 0, none⟩ by simp [Addr.add]]
        rw [World.cell?_alloc_mark]; rfl)
      exact r
    have ez := eq_zero nq
    have hbz := build_zero
    have lb : bx < w2.heap.size := HV.out.1.1.row.lt (by simp)
    have lb2 : bx ≠ w2.heap.size := Nat.ne_of_lt lb
    have ca := fun o1 o2 o3 => (((HV.out.1.alloc o1).alloc o2).alloc o3).1.cells
    have fa := fun o1 o2 o3 => (((HV.out.1.alloc o1).alloc o2).alloc o3).2.cells4
    rw [hd0]
    generalize l1 d = e1 at *; generalize l2 d = e2 at *; generalize l3 d = e3 at *
    have et : Hid ((⟨[db d].toArray⟩ ++ ⟨(tx x i).toArray⟩ : ByteArray) = ⟨(tx x (i + 1)).toArray⟩) := by
      rw [tx, ← Hd.out]
      show _ = _
      apply ByteArray.ext
      simp [ByteArray.data_append]
    have e10 : q = x / 10 ^ (i + 1) := by rw [Hq.out, div10]
    have HE : Hid (q = x / 10 ^ (i + 1)) := e10
    clear e10
    have hlen : ¬ 9223372036854775807 < 1 + (tx x i).length := by rw [tx_len]; have := HK.out.2; have := HX.out.2.2; omega
    by_cases h0 : q = 0
    · rw [decide_eq_true h0] at ez
      have HL : Hid (i + 1 = k) := by
        have h1 := len_le HX.out.2.1 (n := i + 1) (by omega) (by rw [← HE.out]; exact h0)
        have := HK.out.2
        show _ = _; omega
      clear h0
      go_wp2
      go_ret
      have B := HV.out.2.2
      have gx : w.heap.size ≤ bx := by have := HB.out; omega
      refine ⟨by rw [← HL.out, ← et.out]; rfl, ?_⟩
      exact ((((((B.alloc B.size _).alloc (by have := B.size; simp; omega) _).alloc (by have := B.size; simp; omega) _).setCell gx _).setCell gx _).setCell gx _).setCell gx _
    · rw [decide_eq_false h0] at ez
      have HL : Hid (i + 1 < k) := by
        have h1 := HK.out.2
        have : i + 1 ≠ k := fun e => h0 (by rw [HE.out, e]; exact HX.out.2.1.2.1)
        show _ < _; omega
      clear h0
      go_wp2
      go_roundg (78 - (i + 1))
      case measure => have := HK.out.1; have := HX.out.2.2; have := HL.out; omega
      case rel =>
        have B := HV.out.2.2
        have gx : w.heap.size ≤ bx := by have := HB.out; omega
        refine ⟨i + 1, rfl, HL.out, by rw [← et.out], by rw [Int.natCast_add]; rfl, ?_, ?_, ?_⟩
        · rw [← HE.out]; exact (((HV.out.1.alloc _).alloc _).alloc _).sets q
        · exact (((HV.out.2.1.alloc _).alloc _).alloc _).set4 nb _ _ _ _
        · exact ((((((B.alloc B.size _).alloc (by have := B.size; simp; omega) _).alloc (by have := B.size; simp; omega) _).setCell gx _).setCell gx _).setCell gx _).setCell gx _
end Go.Proofs.YtmhcgjkemlcgoaaDoor
