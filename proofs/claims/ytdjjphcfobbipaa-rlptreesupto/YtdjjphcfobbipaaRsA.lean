import Derived.Test.YtdjjphcfobbipaaUbA
import Derived.Test.YtdjjphcfobbipaaUbC
import Derived.Test.YtdjjphcfobbipaaShiftNum
import Derived.Deep.LoopGhost
import Derived.Lib.QuietBelow
import Derived.BigQuiet
/- Layer 7: isBare, readLength (RlHd on u256's base). -/
namespace Go.Proofs.Ytdjjphcfobbipaa
open Go.RowKit

def bareB (A : List Int) : Bool := decide (A.length = 1) && decide (A.getD 0 0 < 128)
set_option maxRecDepth 100000 in
theorem bare_any {A : List Int} {ao : Option Addr} {b o c : Nat} (ha : Az ao b o A) (w : World) (h : Bz w b o A) :
    Calls Try.prog 74 #[.slice ao A.length c] w fun e w' => e = .returned (.bool (bareB A)) ∧ w' = w := by
  unfold bareB
  by_cases h1 : A.length = 1
  · have ea : ao = some ⟨b, o, none⟩ := by
      rcases ha with rfl | e
      · simp at h1
      · exact e
    subst ea
    have g := h 0 (by omega)
    rw [Nat.add_zero] at g
    have e1 : decide (A.length = 1) = true := decide_eq_true h1
    rw [e1]
    generalize A.getD 0 0 = x at *
    rw [h1]
    clear h1 e1 ha h
    go_enter Try.func74, Try.ntmps74
    go_wp2
    go_ret
    exact ⟨by simp, rfl⟩
  · have e1 : decide (A.length = 1) = false := decide_eq_false h1
    have h2 : ¬ ((A.length : Int) = 1) := by omega
    rw [e1]
    generalize A.length = n at *
    clear h1 e1 ha h
    go_enter Try.func74, Try.ntmps74
    go_wp2
    go_ret
    exact ⟨by simp, rfl⟩
/-- The number of the first k bytes, the highest first. -/
def lenQ (A : List Int) : Nat → Int
  | 0 => 0
  | k + 1 => lenQ A k * 256 + A.getD k 0
theorem lenQ_bound {A : List Int} (hA : Byts A) : ∀ k, 0 ≤ lenQ A k ∧ lenQ A k < 256 ^ k
  | 0 => by simp [lenQ]
  | k + 1 => by
    obtain ⟨a, b⟩ := lenQ_bound hA k
    obtain ⟨c, d⟩ := hA k
    unfold lenQ
    rw [Int.pow_succ]
    omega

theorem or8 {l x : Int} (p0 : 0 ≤ l) (p1 : l < 72057594037927936) (x0 : 0 ≤ x) (x1 : x < 256) : bits .or .u64 (l * 256) x = l * 256 + x := by
  obtain ⟨l, rfl⟩ := Int.eq_ofNat_of_zero_le p0
  obtain ⟨x, rfl⟩ := Int.eq_ofNat_of_zero_le x0
  have := or_sum 8 l x (by omega) (by omega) (by omega)
  rw [show ((l : Int) * 256) = ((2 ^ 8 * l : Nat) : Int) by omega, this]
  omega
theorem lenQ_seven {A : List Int} (hA : Byts A) {i : Nat} (hi : i ≤ 7) : lenQ A i < 72057594037927936 := by
  have h := (lenQ_bound hA i).2
  have : i = 0 ∨ i = 1 ∨ i = 2 ∨ i = 3 ∨ i = 4 ∨ i = 5 ∨ i = 6 ∨ i = 7 := by omega
  rcases this with rfl | rfl | rfl | rfl | rfl | rfl | rfl | rfl <;> omega
end Go.Proofs.Ytdjjphcfobbipaa

/- Layer 7: readHead (RlRd on u256's base). -/
namespace Go.Proofs.Ytdjjphcfobbipaa
open Go.RowKit Go.Sort

theorem keepC {W w1 : World} {p : Addr} {v : Value} (hb : Below W.heap.size W w1) (h : W.cell? p = some v) : w1.cell? p = some v := by
  rw [hb.cell (p := p) (World.block_lt_of_cell? W _ h)]; exact h
theorem callsW {P : Program} {f : FuncId} {args : Array Value} {w : World} {R : Ending → World → Prop} (S : World → Prop) (h : S w) (k : ∀ W, S W → Calls P f args W R) : Calls P f args w R := k w h
theorem wpW {P : Program} {c : Code} {Q : Exit → Act → World → Prop} {a : Act} {w : World} (S : World → Prop) (h : S w) (k : ∀ W, S W → c.wp P Q a W) : c.wp P Q a w := k w h
theorem Bz.alloc {W : World} {b o : Nat} {A : List Int} (h : Bz W b o A) (ob : Obj) : Bz (W.alloc ob) b o A := h.keep ((Below.refl _ _).alloc (Nat.le_refl _) ob)
/-- Small enough for an int. -/
def Lim (m : Nat) : Prop := m < 4294967296
/-- A head in a block. -/
def Hb (W : World) (b : Nat) (l : Bool) (s h : Int) : Prop := W.cell? ⟨b, 0, none⟩ = some (.bool l) ∧ W.cell? ⟨b, 1, none⟩ = some (.int .i64 s) ∧ W.cell? ⟨b, 2, none⟩ = some (.int .i64 h)
theorem Hb.keep {W w1 : World} {b : Nat} {l : Bool} {s h : Int} (x : Hb W b l s h) (hb : Below W.heap.size W w1) : Hb w1 b l s h := ⟨keepC hb x.1, keepC hb x.2.1, keepC hb x.2.2⟩
def Fr3 (W : World) (b : Nat) : Prop := W.frozen? ⟨b, 0, none⟩ = false ∧ W.frozen? ⟨b, 1, none⟩ = false ∧ W.frozen? ⟨b, 2, none⟩ = false
theorem Fr3.keep {W w1 : World} {b : Nat} (x : Fr3 W b) (hlt : b < W.heap.size) (hb : Below W.heap.size W w1) : Fr3 w1 b := ⟨by rw [hb.frozen (p := ⟨b, 0, none⟩) hlt]; exact x.1, by rw [hb.frozen (p := ⟨b, 1, none⟩) hlt]; exact x.2.1, by rw [hb.frozen (p := ⟨b, 2, none⟩) hlt]; exact x.2.2⟩
set_option maxRecDepth 100000 in
theorem bare_not {ao : Option Addr} {n c : Nat} (hn : n ≠ 1) (w : World) : Calls Try.prog 74 #[.slice ao n c] w fun e w' => e = .returned (.bool false) ∧ Below w.heap.size w w' := by
  have h2 : ¬ ((n : Int) = 1) := by omega
  go_enter Try.func74, Try.ntmps74
  go_wp2
  go_ret
  exact ⟨by simp, Below.refl _ _⟩

end Go.Proofs.Ytdjjphcfobbipaa

/- Layer 1: Get of the document and roomy, of any list. -/
namespace Go.Proofs.Ytdjjphcfobbipaa
open Go.RowKit Go.Sort

set_option maxHeartbeats 4000000 in
theorem rget_any {A : List Int} {a : Option Addr} {bb ob cb : Nat} (hZ : Az a bb ob A) (hA : Byts A) (hl : A.length ≤ 32) (w : World) (ha : ∀ i, i < A.length → w.cell? ⟨bb, ob + i, none⟩ = some (.int .u8 (A.getD i 0))) :
    Calls Try.prog 65 #[.slice a A.length cb] w fun e w' => e = .returned (.tuple #[.agg #[.int .u64 (l0 (sufN A A.length)), .int .u64 (l1 (sufN A A.length)), .int .u64 (l2 (sufN A A.length)), .int .u64 (l3 (sufN A A.length))], .int .i64 0]) ∧ Below w.heap.size w w' := by
  have hl' : (A.length : Int) ≤ 32 := by omega
  have HZ : Hid (Az a bb ob A) := hZ
  clear hZ
  have hb0 := build_zero
  go_enter Try.func65, Try.ntmps65
  go_wp2_with fail
  refine wp_world (fun W => Below w.heap.size w W ∧ Blank W w.heap.size ∧ Row W (w.heap.size + 1) [l0 0, l1 0, l2 0, l3 0] ∧ Loose W (w.heap.size + 1) 4) ⟨?_, (Blank.new rfl).alloc _, ?_, ?_⟩ ?_
  · repeat (first | with_reducible exact Below.refl _ _ | with_reducible refine Below.alloc ?_ (by first | omega | (simp; done) | (simp; omega)) _)
  · obtain ⟨z0, z1, z2, z3⟩ := zero_limbs
    rw [z0, z1, z2, z3]
    exact (Blank.new (by simp)).1
  · exact (Blank.new (by simp)).2
  rintro W ⟨B, hR, hX, lX⟩
  have c1 : w.heap.size + 1 ≠ w.heap.size := by omega
  have o1 : w.heap.size ≤ w.heap.size + 1 := by omega
  generalize w.heap.size + 1 = bx at *
  have HA : Hid (Byts A ∧ ∀ i, i < A.length → w.cell? ⟨bb, ob + i, none⟩ = some (.int .u8 (A.getD i 0))) := ⟨hA, ha⟩
  clear hA ha
  go_loopg [5] A.length (fun k iv wr => ∃ i : Nat, k = A.length - i ∧ i ≤ A.length ∧ iv = .int .i64 i ∧ Below w.heap.size w wr ∧ Blank wr w.heap.size ∧ Row wr bx [l0 (gpreN A i), l1 (gpreN A i), l2 (gpreN A i), l3 (gpreN A i)] ∧ Loose wr bx 4)
  case atStart => exact ⟨0, rfl, Nat.zero_le _, rfl, B, hR, hX, lX⟩
  case round =>
    clear B hR hX lX
    obtain ⟨i, hk, hi, rfl, B, hR, hX, lX⟩ := hrel
    have HK : Hid (gk = A.length - i) := hk
    clear hk
    by_cases h8 : i = A.length
    · subst h8
      rw [pre_all] at hX
      have gX := hX.all4; have gR := hR.1.all4; have fR := hR.2.all4
      go_wp2
      simp [bodyPost, results, Try.results65, go_sem, gR]
      exact below_set4 B (Nat.le_refl _) _ _ _ _
    · have hi' : (i : Int) < A.length := by omega
      have hi2 : (i : Int) < 32 := by omega
      obtain rfl := HZ.out.cons (by omega)
      have lt : bb < w.heap.size := World.block_lt_of_cell? w _ (HA.out.2 0 (by omega))
      obtain ⟨K, hK⟩ : ∃ K : Nat, A.length - 1 - i = K := ⟨_, rfl⟩
      have eK : (A.length : Int) - 1 - (i : Int) = (K : Int) := by omega
      have K1 : (K : Int) < 32 := by omega
      have e1 : ((K : Int) / 8).toNat = K / 8 := by omega
      have gy : wr.cell? ⟨bb, ob + i, none⟩ = some (.int .u8 (A.getD i 0)) := by rw [B.cell (p := ⟨bb, ob + i, none⟩) lt]; exact HA.out.2 _ (by omega)
      have gx := hX (K / 8) (by simp; omega)
      have fx := lX (K / 8) (by omega)
      obtain ⟨b0, b1⟩ := HA.out.1 i
      obtain ⟨nX, t, ht⟩ := gpreN_bound HA.out.1 hl hi
      obtain ⟨y0, z0, z1, ev⟩ := limb_top (k := K) (by omega) nX (by rw [ht, show A.length - i = K + 1 by omega]) b0 b1
      have EV : Hid ([l0 (gpreN A (i + 1)), l1 (gpreN A (i + 1)), l2 (gpreN A (i + 1)), l3 (gpreN A (i + 1))] = [l0 (gpreN A i), l1 (gpreN A i), l2 (gpreN A i), l3 (gpreN A i)].set (K / 8) ([l0 (gpreN A i), l1 (gpreN A i), l2 (gpreN A i), l3 (gpreN A i)].getD (K / 8) 0 + A.getD i 0 * 2 ^ (8 * (K % 8)))) := by rw [gpreN, hK]; exact ev
      clear ev ht nX
      generalize hy : [l0 (gpreN A i), l1 (gpreN A i), l2 (gpreN A i), l3 (gpreN A i)].getD (K / 8) 0 = y at *
      generalize hv : A.getD i 0 = v at *
      clear hy hv
      have wz : IntKind.u64.wrap (v * 2 ^ (8 * (K % 8))) = v * 2 ^ (8 * (K % 8)) := by rw [IntKind.wrap_u64]; omega
      have wy : IntKind.u64.wrap (y + v * 2 ^ (8 * (K % 8))) = y + v * 2 ^ (8 * (K % 8)) := by rw [IntKind.wrap_u64]; omega
      go_wp2
      go_region
      go_wp2
      go_roundg (A.length - (i + 1))
      case measure => have := HK.out; omega
      case rel =>
        refine ⟨i + 1, rfl, by omega, by go_num, B.drew.setCell o1 _, hR.drew.set c1 _, ?_, lX.drew.set _ _⟩
        rw [EV.out]
        exact Row.set hX.drew (K / 8) (by simp; omega) _

end Go.Proofs.Ytdjjphcfobbipaa

/- Layer 7: readHead of long heads. -/
namespace Go.Proofs.Ytdjjphcfobbipaa
open Go.RowKit Go.Sort

theorem Hb.new {W : World} {t : TypeId} {l : Bool} {s h : Int} : Hb (W.alloc (.cells #[.bool l, .int .i64 s, .int .i64 h] t)) W.heap.size l s h := ⟨by simp [go_sem], by simp [go_sem], by simp [go_sem]⟩
theorem Fr3.new {W : World} {t : TypeId} {l : Bool} {s h : Int} : Fr3 (W.alloc (.cells #[.bool l, .int .i64 s, .int .i64 h] t)) W.heap.size := ⟨by simp [go_sem], by simp [go_sem], by simp [go_sem]⟩
theorem Hb.size {W : World} {b : Nat} {l : Bool} {s h : Int} (x : Hb W b l s h) (y : Int) : Hb (W.setCell ⟨b, 1, none⟩ (.int .i64 y)) b l y h := ⟨by simp [go_sem, x.1], by simp [go_sem, x.2.1], by simp [go_sem, x.2.2]⟩
theorem Hb.held {W : World} {b : Nat} {l : Bool} {s h : Int} (x : Hb W b l s h) (y : Int) : Hb (W.setCell ⟨b, 2, none⟩ (.int .i64 y)) b l s y := ⟨by simp [go_sem, x.1], by simp [go_sem, x.2.1], by simp [go_sem, x.2.2]⟩
theorem Hb.other {W : World} {b b' i : Nat} {l : Bool} {s h : Int} (x : Hb W b l s h) (ne : b' ≠ b) (v : Value) : Hb (W.setCell ⟨b', i, none⟩ v) b l s h := by
  have hg := heap_setCell_other W ⟨b', i, none⟩ b v (fun e => ne e.symm)
  refine ⟨?_, ?_, ?_⟩
  · rw [← x.1]; simp only [World.cell?, hg]
  · rw [← x.2.1]; simp only [World.cell?, hg]
  · rw [← x.2.2]; simp only [World.cell?, hg]
theorem Fr3.set {W : World} {b : Nat} (x : Fr3 W b) (p : Addr) (v : Value) : Fr3 (W.setCell p v) b := ⟨by rw [World.frozen?_setCell]; exact x.1, by rw [World.frozen?_setCell]; exact x.2.1, by rw [World.frozen?_setCell]; exact x.2.2⟩
theorem Hb.lt {W : World} {b : Nat} {l : Bool} {s h : Int} (x : Hb W b l s h) : b < W.heap.size := World.block_lt_of_cell? W _ x.1
end Go.Proofs.Ytdjjphcfobbipaa

/- Layer 7: readHead of long heads that it takes. -/
namespace Go.Proofs.Ytdjjphcfobbipaa
open Go.RowKit Go.Sort

def LimI (x : Int) : Prop := x ≤ 16777216
theorem wrapL {n : Nat} (h : (n : Int) ≤ 16777216) : wrap64 (n : Int) = n := by unfold wrap64; omega
end Go.Proofs.Ytdjjphcfobbipaa

/- Layer 7: readHead of any bytes. -/
namespace Go.Proofs.Ytdjjphcfobbipaa
open Go.RowKit Go.Sort

/-- What a head that fits is answered as. -/
def fin7 (A : List Int) (l : Bool) (s h : Nat) : Bool × Nat × Nat × Int := if A.length < s + h then (false, 0, 0, 70) else if l = false ∧ bareB ((A.drop s).take h) = true then (false, 0, 0, 71) else (l, s, h, 0)
/-- The head of any bytes: whether a list, its own bytes, how many it holds, the error. -/
def hdP (A : List Int) : Bool × Nat × Nat × Int :=
  if A.length = 0 then (false, 0, 0, 70)
  else if A.getD 0 0 < 128 then (false, 0, 1, 0)
  else if A.getD 0 0 % 64 ≤ 55 then fin7 A (decide (192 ≤ A.getD 0 0)) 1 (A.getD 0 0 % 64).toNat
  else if A.length - 1 < (A.getD 0 0 % 64).toNat - 55 then (false, 0, 0, 70)
  else if (A.drop 1).getD 0 0 = 0 ∨ lenQ (A.drop 1) ((A.getD 0 0 % 64).toNat - 55) ≤ 55 then (false, 0, 0, 72)
  else fin7 A (decide (192 ≤ A.getD 0 0)) (1 + ((A.getD 0 0 % 64).toNat - 55)) (lenQ (A.drop 1) ((A.getD 0 0 % 64).toNat - 55)).toNat
theorem byts_dropR {l : List Int} (h : Byts l) (k : Nat) : Byts (l.drop k) := fun i => by
  have := h (k + i)
  simpa [List.getD, List.getElem?_drop] using this
theorem bare_long {X : List Int} (h : X.length ≠ 1) : bareB X = false := by
  unfold bareB
  rw [decide_eq_false h]; rfl
end Go.Proofs.Ytdjjphcfobbipaa

/- Layer 7: bytes.Clone. -/
namespace Go.Proofs.Ytdjjphcfobbipaa
open Go.RowKit Go.Sort
theorem sl_none (w : World) (n c : Nat) : (binOp .eql 22 (.slice none n c) (.slice none 0 0)).run Try.prog w = .ok (.bool true) w := by kernel_rfl
set_option maxRecDepth 100000 in
theorem bclone_nil (n c : Nat) (w : World) : Calls Try.prog 41 #[.slice none n c] w fun e w' => e = .returned (.slice none 0 0) ∧ w' = w := by
  have h := sl_none
  go_enter Try.func41, Try.ntmps41
  go_wp2
  simp [bodyPost, results, Try.results41, go_sem]
set_option maxRecDepth 100000 in
set_option maxHeartbeats 4000000 in
theorem bclone_any {b o c : Nat} {X : List Int} (hl : X.length < 140737488355000) (w : World) (hz : Bz w b o X) :
    Calls Try.prog 41 #[.slice (some ⟨b, o, none⟩) X.length c] w fun e w' => ∃ v, e = .returned v ∧ OwnB w.heap.size w' v X ∧ v ≠ .slice none 0 0 ∧ Below w.heap.size w w' := by
  obtain ⟨i0, hi, hz0, hz1, hz2⟩ := info_parts info_byte
  have sl := sl_some
  have HA : Hid (X.length < 140737488355000 ∧ Bz w b o X) := ⟨hl, hz⟩
  obtain ⟨n, en⟩ : ∃ n, n = X.length := ⟨_, rfl⟩
  rw [← en]
  have EN : Hid (X.length = n) := en.symm
  clear en hl hz
  go_enter Try.func41, Try.ntmps41
  go_wp2_with (at_builtin; go_loud (refine wpList_append_own_at _ rfl _ _ 22 rfl w.heap.size 5 i0 (.int .u8 0) 1 1 Try.underlying22 hi hz0 hz1 hz2 rfl (by decide) _ 0 [] rfl (own_mt _ _ (Nat.le_refl _)).row ⟨b, o, none⟩ n c (X.map (Value.int .u8)) rfl (by rw [List.length_map, EN.out, Nat.mul_one]) (fun j u hu => src_bz (HA.out.2.keep ((Below.refl _ _).alloc (Nat.le_refl _) _)) j u hu) (fun u hu => by obtain ⟨y, _, rfl⟩ := List.mem_map.1 hu; rfl) (by unfold maxLen; have := HA.out.1; have := EN.out; omega) (by have := HA.out.1; have := EN.out; omega) (by simp) ?_); intro v' w3 hown' hgrow3 hnil3 hblk)
  go_ret
  refine ⟨_, rfl, ?_, ?_, ((Below.refl _ _).alloc (Nat.le_refl _) _).grown hgrow3 (by simp) (fun k hk => by have e : w.heap.size = k := Option.some.inj hk; omega)⟩
  · rw [OwnB, EN.out]
    simpa using hown'
  · intro e
    have q : Value.slice (some ⟨w.heap.size, 0, none⟩) 0 0 = Value.slice none 0 0 := (hnil3.1 e).1
    cases q
end Go.Proofs.Ytdjjphcfobbipaa

/- Layer 7: Split. -/
namespace Go.Proofs.Ytdjjphcfobbipaa
open Go.RowKit Go.Sort
/-- Where a slice of a slice begins: at the end of its room it stays where it was. -/
def atO (o c p : Nat) : Nat := if c = p then o else o + p
theorem cut_lo {b o n c p : Nat} (h : p ≤ n) (hc : n ≤ c) (w : World) : (Instr.sliceAt 22 (.slice (some ⟨b, o, none⟩) n c) (some (.int .i64 (p : Int))) none none).run Try.prog w = .ok (.slice (some ⟨b, atO o c p, none⟩) (n - p) (c - p)) w := by
  have tu := Try.underlying22
  have tz := Try.sizeOf5
  have h1 : (p : Int) ≤ (n : Int) := by omega
  unfold atO
  by_cases k : c = p
  · have e : n = p := by omega
    subst e k
    simp [Instr.sliceAt, Instr.slice, Instr.sliceBounds, run_underlying tu, run_sliceBound, go_sem, tz, Addr.add]
  · simp [Instr.sliceAt, Instr.slice, Instr.sliceBounds, run_underlying tu, run_sliceBound, go_sem, tz, h1, k, Addr.add]
theorem cut_both {b o n c p q : Nat} (h : p ≤ q) (hc : q ≤ c) (w : World) : (Instr.sliceAt 22 (.slice (some ⟨b, o, none⟩) n c) (some (.int .i64 (p : Int))) (some (.int .i64 (q : Int))) none).run Try.prog w = .ok (.slice (some ⟨b, atO o c p, none⟩) (q - p) (c - p)) w := by
  have tu := Try.underlying22
  have tz := Try.sizeOf5
  have h2 : (q : Int) ≤ (c : Int) := by omega
  unfold atO
  by_cases k : c = p
  · have e : q = p := by omega
    subst e k
    simp [Instr.sliceAt, Instr.slice, Instr.sliceBounds, run_underlying tu, run_sliceBound, go_sem, tz, Addr.add]
  · simp [Instr.sliceAt, Instr.slice, Instr.sliceBounds, run_underlying tu, run_sliceBound, go_sem, tz, h, h2, k, Addr.add]
    try (intro k3; omega)
end Go.Proofs.Ytdjjphcfobbipaa

/- Layer 1: Get, Strict of any list; '==' of 32 bytes. -/
namespace Go.Proofs.Ytdjjphcfobbipaa
open Go.RowKit Go.Sort

/-- Are two rows of bytes the same, from s on, m of them? -/
def sameI (X Y : List Int) : Nat → Nat → Bool
  | _, 0 => true
  | s, m + 1 => X.getD s 0 == Y.getD s 0 && sameI X Y (s + 1) m
theorem part_i {X : List Int} {i : Nat} (h : i < X.length) (w : World) : (part 5 (X.map (Value.int .u8)).toArray (i * 1)).run Try.prog w = .ok (.int .u8 (X.getD i 0)) w := by
  have ta := Try.isAgg5

  rw [Nat.mul_one]
  simp [Go.part, go_sem, ta, h]
theorem eq_loopI {X Y : List Int} (w : World) : ∀ (m s : Nat), s + m ≤ X.length → s + m ≤ Y.length →
    (forIn (m := Sem) (List.range' s m) ((none : Option Bool), ()) fun i _ => do
      let x ← part 5 (X.map (Value.int .u8)).toArray (i * 1)
      let y ← part 5 (Y.map (Value.int .u8)).toArray (i * 1)
      let b ← Op.equalIn 9999 5 x y
      if (!b) = true then pure (ForInStep.done (some false, ())) else pure (ForInStep.yield (none, ()))).run Try.prog w = .ok (if sameI X Y s m = true then (none, ()) else (some false, ())) w
  | 0, s, _, _ => by simp [sameI]
  | m + 1, s, h1, h2 => by
    have tu := Try.underlying5
    rw [List.range'_succ, List.forIn_cons]
    simp only [Sem.run_bind, part_i (show s < X.length by omega), part_i (show s < Y.length by omega), Result.andThen_ok]
    rw [show (9999 : Nat) = 9998 + 1 from rfl, run_equalIn_int _ _ _ _ _ _ _ tu]
    simp only [Result.andThen_ok]
    rw [sameI]
    have ih := eq_loopI (X := X) (Y := Y) w m (s + 1) (by omega) (by omega)
    generalize X.getD s 0 = a at *
    generalize Y.getD s 0 = b at *
    by_cases e : a = b
    · subst e
      simp only [beq_self_eq_true, Bool.not_true, Bool.false_eq_true, if_false, Sem.run_pure, Result.andThen_ok, Bool.true_and]
      exact ih
    · have ne : (a == b) = false := beq_eq_false_iff_ne.2 e
      simp only [ne, Bool.not_false, if_true, Sem.run_pure, Result.andThen_ok, Bool.false_and, Bool.false_eq_true, if_false]
theorem sameI_iff {X Y : List Int} : ∀ (m s : Nat), sameI X Y s m = true ↔ ∀ i, s ≤ i → i < s + m → X.getD i 0 = Y.getD i 0
  | 0, s => by simp [sameI]; intro i h1 h2; omega
  | m + 1, s => by
    rw [sameI, Bool.and_eq_true, sameI_iff m (s + 1)]
    constructor
    · rintro ⟨h1, h2⟩ i h3 h4
      by_cases e : i = s
      · subst e; exact eq_of_beq h1
      · exact h2 i (by omega) (by omega)
    · intro h
      exact ⟨by rw [h s (Nat.le_refl _) (by omega)]; exact beq_self_eq_true _, fun i h1 h2 => h i (by omega) (by omega)⟩
theorem sameI_eq {X Y : List Int} {n : Nat} (hx : X.length = n) (hy : Y.length = n) : sameI X Y 0 n = decide (X = Y) := by
  have h := sameI_iff (X := X) (Y := Y) n 0
  by_cases e : X = Y
  · subst e
    rw [decide_eq_true rfl]
    exact h.2 fun _ _ _ => rfl
  · rw [decide_eq_false e]
    apply Bool.eq_false_iff.2
    intro ht
    exact e (extB (by rw [hx, hy]) fun t h1 => h.1 ht t (Nat.zero_le _) (by omega))
/-- '==' of two rows of 32 bytes. -/
theorem eq_b32 {X Y : List Int} (hx : X.length = 32) (hy : Y.length = 32) (w : World) : (Op.equalIn 10000 80 (.agg (X.map (Value.int .u8)).toArray) (.agg (Y.map (Value.int .u8)).toArray)).run Try.prog w = .ok (decide (X = Y)) w := by
  rw [show (10000 : Nat) = 9999 + 1 from rfl, Op.equalIn]
  have tz : (sizeOf 5).run Try.prog w = .ok 1 w := by have := Try.sizeOf5; simp [go_sem, this]
  simp only [Sem.run_bind, run_underlying Try.underlying80, Result.andThen_ok, tz]
  simp only [Std.Legacy.Range.forIn_eq_forIn_range', Std.Legacy.Range.size, Nat.sub_zero, Nat.add_sub_cancel, Nat.div_one]
  have h := eq_loopI (X := X) (Y := Y) w 32 0 (by omega) (by omega)
  rw [h, sameI_eq hx hy]
  by_cases e : X = Y <;> simp [e]
def gv (X : List Int) : Int := if X.length ≤ 32 then sufN X X.length else 0
def ge (X : List Int) : Int := if X.length ≤ 32 then 0 else 11
def sv (X : List Int) : Int := if X.length ≤ 32 then (if X ≠ [] ∧ X.getD 0 0 = 0 then 0 else sufN X X.length) else 0
def se (X : List Int) : Int := if X.length ≤ 32 then (if X ≠ [] ∧ X.getD 0 0 = 0 then 13 else 0) else 11
theorem get_all {g c : Nat} {X : List Int} (hX : Byts X) (w : World) (hz : Bz w g 0 X) :
    Calls Try.prog 73 #[.slice (some ⟨g, 0, none⟩) X.length c] w fun e w' => e = .returned (.tuple #[.agg #[.int .u64 (l0 (gv X)), .int .u64 (l1 (gv X)), .int .u64 (l2 (gv X)), .int .u64 (l3 (gv X))], .int .i64 (ge X)]) ∧ Below w.heap.size w w' := by
  by_cases h : X.length ≤ 32
  · rw [gv, ge, if_pos h, if_pos h]; exact get_some hX h w hz
  · rw [gv, ge, if_neg h, if_neg h]; exact get_long (by omega) w
theorem rget_all {a : Option Addr} {b o c : Nat} {X : List Int} (hX : Byts X) (hZ : Az a b o X) (w : World) (hz : Bz w b o X) :
    Calls Try.prog 65 #[.slice a X.length c] w fun e w' => e = .returned (.tuple #[.agg #[.int .u64 (l0 (gv X)), .int .u64 (l1 (gv X)), .int .u64 (l2 (gv X)), .int .u64 (l3 (gv X))], .int .i64 (ge X)]) ∧ Below w.heap.size w w' := by
  by_cases h : X.length ≤ 32
  · rw [gv, ge, if_pos h, if_pos h]; exact rget_any hZ hX h w hz
  · rw [gv, ge, if_neg h, if_neg h]; exact rget_long (by omega) w
theorem strict_all {g c : Nat} {X : List Int} (hX : Byts X) (w : World) (hz : Bz w g 0 X) :
    Calls Try.prog 64 #[.slice (some ⟨g, 0, none⟩) X.length c] w fun e w' => e = .returned (.tuple #[.agg #[.int .u64 (l0 (sv X)), .int .u64 (l1 (sv X)), .int .u64 (l2 (sv X)), .int .u64 (l3 (sv X))], .int .i64 (se X)]) ∧ Below w.heap.size w w' := by
  by_cases h : X.length ≤ 32
  · have GT : Hid (∀ W, Below w.heap.size w W → Calls Try.prog 73 #[.slice (some ⟨g, 0, none⟩) X.length c] W fun e w' => e = .returned (.tuple #[.agg #[.int .u64 (l0 (sufN X X.length)), .int .u64 (l1 (sufN X X.length)), .int .u64 (l2 (sufN X X.length)), .int .u64 (l3 (sufN X X.length))], .int .i64 0]) ∧ Below W.heap.size W w') := fun W B => get_some hX h W (hz.keep B)
    rw [sv, se, if_pos h, if_pos h]
    by_cases h0 : X = []
    · rw [if_neg (by simp [h0]), if_neg (by simp [h0])]
      exact strict_none w (by rw [h0]; rfl) GT
    · have hp : 0 < X.length := List.length_pos_iff.2 h0
      have hc := hz 0 hp
      rw [Nat.add_zero] at hc
      by_cases h1 : X.getD 0 0 = 0
      · rw [if_pos ⟨h0, h1⟩, if_pos ⟨h0, h1⟩]
        obtain ⟨z0, z1, z2, z3⟩ := zero_limbs
        rw [z0, z1, z2, z3]
        rw [h1] at hc
        exact strict_lead w hp hc GT
      · rw [if_neg (fun q => h1 q.2), if_neg (fun q => h1 q.2)]
        exact strict_some w hp h1 hc GT
  · rw [sv, se, if_neg h, if_neg h]
    exact strict_bad w (by decide) (fun W _ => get_long (by omega) W)
theorem Bts.bz {W : World} {b : Nat} {l : List Int} (h : Bts W b l) : Bz W b 0 l := fun i hi => by rw [Nat.zero_add]; exact h.1 i hi
end Go.Proofs.Ytdjjphcfobbipaa
