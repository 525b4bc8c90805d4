import Derived.Test.YtdjjphcfobbipaaUbB
import Derived.Test.YtdjjphcfobbipaaUbC
import Derived.Test.YtdjjphcfobbipaaShiftNum
import Derived.Deep.LoopGhost
import Derived.Lib.QuietBelow
import Derived.BigQuiet
/- Layer 7: isBare, readLength (RlHd on u256's base). -/
namespace Go.Proofs.Ytdjjphcfobbipaa
open Go.RowKit

def bareB (A : List Int) : Bool := decide (A.length = 1) && decide (A.getD 0 0 < 128)
set_option maxRecDepth 100000 in
theorem bare_any {A : List Int} {ao : Option Addr} {b o c : Nat} (ha : Az ao b o A) (w : World) (h : Bz w b o A) :
    Calls Try.prog 74 #[.slice ao A.length c] w fun e w' => e = .returned (.bool (bareB A)) ∧ w' = w := by
  unfold bareB
  by_cases h1 : A.length = 1
  · have ea : ao = some ⟨b, o, none⟩ := by
      rcases ha with rfl | e
      · simp at h1
      · exact e
    subst ea
    have g := h 0 (by omega)
    rw [Nat.add_zero] at g
    have e1 : decide (A.length = 1) = true := decide_eq_true h1
    rw [e1]
    generalize A.getD 0 0 = x at *
    rw [h1]
    clear h1 e1 ha h
    go_enter Try.func74, Try.ntmps74
    go_wp2
    go_ret
    exact ⟨by simp, rfl⟩
  · have e1 : decide (A.length = 1) = false := decide_eq_false h1
    have h2 : ¬ ((A.length : Int) = 1) := by omega
    rw [e1]
    generalize A.length = n at *
    clear h1 e1 ha h
    go_enter Try.func74, Try.ntmps74
    go_wp2
    go_ret
    exact ⟨by simp, rfl⟩
/-- The number of the first k bytes, the highest first. -/
def lenQ (A : List Int) : Nat → Int
  | 0 => 0
  | k + 1 => lenQ A k * 256 + A.getD k 0
theorem lenQ_bound {A : List Int} (hA : Byts A) : ∀ k, 0 ≤ lenQ A k ∧ lenQ A k < 256 ^ k
  | 0 => by simp [lenQ]
  | k + 1 => by
    obtain ⟨a, b⟩ := lenQ_bound hA k
    obtain ⟨c, d⟩ := hA k
    unfold lenQ
    rw [Int.pow_succ]
    omega

theorem or8 {l x : Int} (p0 : 0 ≤ l) (p1 : l < 72057594037927936) (x0 : 0 ≤ x) (x1 : x < 256) : bits .or .u64 (l * 256) x = l * 256 + x := by
  obtain ⟨l, rfl⟩ := Int.eq_ofNat_of_zero_le p0
  obtain ⟨x, rfl⟩ := Int.eq_ofNat_of_zero_le x0
  have := or_sum 8 l x (by omega) (by omega) (by omega)
  rw [show ((l : Int) * 256) = ((2 ^ 8 * l : Nat) : Int) by omega, this]
  omega
theorem lenQ_seven {A : List Int} (hA : Byts A) {i : Nat} (hi : i ≤ 7) : lenQ A i < 72057594037927936 := by
  have h := (lenQ_bound hA i).2
  have : i = 0 ∨ i = 1 ∨ i = 2 ∨ i = 3 ∨ i = 4 ∨ i = 5 ∨ i = 6 ∨ i = 7 := by omega
  rcases this with rfl | rfl | rfl | rfl | rfl | rfl | rfl | rfl <;> omega
end Go.Proofs.Ytdjjphcfobbipaa

/- Layer 7: readHead (RlRd on u256's base). -/
namespace Go.Proofs.Ytdjjphcfobbipaa
open Go.RowKit Go.Sort

theorem keepC {W w1 : World} {p : Addr} {v : Value} (hb : Below W.heap.size W w1) (h : W.cell? p = some v) : w1.cell? p = some v := by
  rw [hb.cell (p := p) (World.block_lt_of_cell? W _ h)]; exact h
theorem callsW {P : Program} {f : FuncId} {args : Array Value} {w : World} {R : Ending → World → Prop} (S : World → Prop) (h : S w) (k : ∀ W, S W → Calls P f args W R) : Calls P f args w R := k w h
theorem wpW {P : Program} {c : Code} {Q : Exit → Act → World → Prop} {a : Act} {w : World} (S : World → Prop) (h : S w) (k : ∀ W, S W → c.wp P Q a W) : c.wp P Q a w := k w h
theorem Bz.alloc {W : World} {b o : Nat} {A : List Int} (h : Bz W b o A) (ob : Obj) : Bz (W.alloc ob) b o A := h.keep ((Below.refl _ _).alloc (Nat.le_refl _) ob)
/-- Small enough for an int. -/
def Lim (m : Nat) : Prop := m < 4294967296
/-- A head in a block. -/
def Hb (W : World) (b : Nat) (l : Bool) (s h : Int) : Prop := W.cell? ⟨b, 0, none⟩ = some (.bool l) ∧ W.cell? ⟨b, 1, none⟩ = some (.int .i64 s) ∧ W.cell? ⟨b, 2, none⟩ = some (.int .i64 h)
theorem Hb.keep {W w1 : World} {b : Nat} {l : Bool} {s h : Int} (x : Hb W b l s h) (hb : Below W.heap.size W w1) : Hb w1 b l s h := ⟨keepC hb x.1, keepC hb x.2.1, keepC hb x.2.2⟩
def Fr3 (W : World) (b : Nat) : Prop := W.frozen? ⟨b, 0, none⟩ = false ∧ W.frozen? ⟨b, 1, none⟩ = false ∧ W.frozen? ⟨b, 2, none⟩ = false
theorem Fr3.keep {W w1 : World} {b : Nat} (x : Fr3 W b) (hlt : b < W.heap.size) (hb : Below W.heap.size W w1) : Fr3 w1 b := ⟨by rw [hb.frozen (p := ⟨b, 0, none⟩) hlt]; exact x.1, by rw [hb.frozen (p := ⟨b, 1, none⟩) hlt]; exact x.2.1, by rw [hb.frozen (p := ⟨b, 2, none⟩) hlt]; exact x.2.2⟩
set_option maxRecDepth 100000 in
theorem bare_not {ao : Option Addr} {n c : Nat} (hn : n ≠ 1) (w : World) : Calls Try.prog 74 #[.slice ao n c] w fun e w' => e = .returned (.bool false) ∧ Below w.heap.size w w' := by
  have h2 : ¬ ((n : Int) = 1) := by omega
  go_enter Try.func74, Try.ntmps74
  go_wp2
  go_ret
  exact ⟨by simp, Below.refl _ _⟩

end Go.Proofs.Ytdjjphcfobbipaa

/- Layer 1: Get of the document and roomy, of any list. -/
namespace Go.Proofs.Ytdjjphcfobbipaa
open Go.RowKit Go.Sort

set_option maxHeartbeats 4000000 in
theorem rget_any {A : List Int} {a : Option Addr} {bb ob cb : Nat} (hZ : Az a bb ob A) (hA : Byts A) (hl : A.length ≤ 32) (w : World) (ha : ∀ i, i < A.length → w.cell? ⟨bb, ob + i, none⟩ = some (.int .u8 (A.getD i 0))) :
    Calls Try.prog 65 #[.slice a A.length cb] w fun e w' => e = .returned (.tuple #[.agg #[.int .u64 (l0 (sufN A A.length)), .int .u64 (l1 (sufN A A.length)), .int .u64 (l2 (sufN A A.length)), .int .u64 (l3 (sufN A A.length))], .int .i64 0]) ∧ Below w.heap.size w w' := by
  have hl' : (A.length : Int) ≤ 32 := by omega
  have HZ : Hid (Az a bb ob A) := hZ
  clear hZ
  have hb0 := build_zero
  go_enter Try.func65, Try.ntmps65
  go_wp2_with fail
  refine wp_world (fun W => Below w.heap.size w W ∧ Blank W w.heap.size ∧ Row W (w.heap.size + 1) [l0 0, l1 0, l2 0, l3 0] ∧ Loose W (w.heap.size + 1) 4) ⟨?_, (Blank.new rfl).alloc _, ?_, ?_⟩ ?_
  · repeat (first | with_reducible exact Below.refl _ _ | with_reducible refine Below.alloc ?_ (by first | omega | (simp; done) | (simp; omega)) _)
  · obtain ⟨z0, z1, z2, z3⟩ := zero_limbs
    rw [z0, z1, z2, z3]
    exact (Blank.new (by simp)).1
  · exact (Blank.new (by simp)).2
  rintro W ⟨B, hR, hX, lX⟩
  have c1 : w.heap.size + 1 ≠ w.heap.size := by omega
  have o1 : w.heap.size ≤ w.heap.size + 1 := by omega
  generalize w.heap.size + 1 = bx at *
  have HA : Hid (Byts A ∧ ∀ i, i < A.length → w.cell? ⟨bb, ob + i, none⟩ = some (.int .u8 (A.getD i 0))) := ⟨hA, ha⟩
  clear hA ha
  go_loopg [5] A.length (fun k iv wr => ∃ i : Nat, k = A.length - i ∧ i ≤ A.length ∧ iv = .int .i64 i ∧ Below w.heap.size w wr ∧ Blank wr w.heap.size ∧ Row wr bx [l0 (gpreN A i), l1 (gpreN A i), l2 (gpreN A i), l3 (gpreN A i)] ∧ Loose wr bx 4)
  case atStart => exact ⟨0, rfl, Nat.zero_le _, rfl, B, hR, hX, lX⟩
  case round =>
    clear B hR hX lX
    obtain ⟨i, hk, hi, rfl, B, hR, hX, lX⟩ := hrel
    have HK : Hid (gk = A.length - i) := hk
    clear hk
    by_cases h8 : i = A.length
    · subst h8
      rw [pre_all] at hX
      have gX := hX.all4; have gR := hR.1.all4; have fR := hR.2.all4
      go_wp2
      simp [bodyPost, results, Try.results65, go_sem, gR]
      exact below_set4 B (Nat.le_refl _) _ _ _ _
    · have hi' : (i : Int) < A.length := by omega
      have hi2 : (i : Int) < 32 := by omega
      obtain rfl := HZ.out.cons (by omega)
      have lt : bb < w.heap.size := World.block_lt_of_cell? w _ (HA.out.2 0 (by omega))
      obtain ⟨K, hK⟩ : ∃ K : Nat, A.length - 1 - i = K := ⟨_, rfl⟩
      have eK : (A.length : Int) - 1 - (i : Int) = (K : Int) := by omega
      have K1 : (K : Int) < 32 := by omega
      have e1 : ((K : Int) / 8).toNat = K / 8 := by omega
      have gy : wr.cell? ⟨bb, ob + i, none⟩ = some (.int .u8 (A.getD i 0)) := by rw [B.cell (p := ⟨bb, ob + i, none⟩) lt]; exact HA.out.2 _ (by omega)
      have gx := hX (K / 8) (by simp; omega)
      have fx := lX (K / 8) (by omega)
      obtain ⟨b0, b1⟩ := HA.out.1 i
      obtain ⟨nX, t, ht⟩ := gpreN_bound HA.out.1 hl hi
      obtain ⟨y0, z0, z1, ev⟩ := limb_top (k := K) (by omega) nX (by rw [ht, show A.length - i = K + 1 by omega]) b0 b1
      have EV : Hid ([l0 (gpreN A (i + 1)), l1 (gpreN A (i + 1)), l2 (gpreN A (i + 1)), l3 (gpreN A (i + 1))] = [l0 (gpreN A i), l1 (gpreN A i), l2 (gpreN A i), l3 (gpreN A i)].set (K / 8) ([l0 (gpreN A i), l1 (gpreN A i), l2 (gpreN A i), l3 (gpreN A i)].getD (K / 8) 0 + A.getD i 0 * 2 ^ (8 * (K % 8)))) := by rw [gpreN, hK]; exact ev
      clear ev ht nX
      generalize hy : [l0 (gpreN A i), l1 (gpreN A i), l2 (gpreN A i), l3 (gpreN A i)].getD (K / 8) 0 = y at *
      generalize hv : A.getD i 0 = v at *
      clear hy hv
      have wz : IntKind.u64.wrap (v * 2 ^ (8 * (K % 8))) = v * 2 ^ (8 * (K % 8)) := by rw [IntKind.wrap_u64]; omega
      have wy : IntKind.u64.wrap (y + v * 2 ^ (8 * (K % 8))) = y + v * 2 ^ (8 * (K % 8)) := by rw [IntKind.wrap_u64]; omega
      go_wp2
      go_region
      go_wp2
      go_roundg (A.length - (i + 1))
      case measure => have := HK.out; omega
      case rel =>
        refine ⟨i + 1, rfl, by omega, by go_num, B.drew.setCell o1 _, hR.drew.set c1 _, ?_, lX.drew.set _ _⟩
        rw [EV.out]
        exact Row.set hX.drew (K / 8) (by simp; omega) _

end Go.Proofs.Ytdjjphcfobbipaa
