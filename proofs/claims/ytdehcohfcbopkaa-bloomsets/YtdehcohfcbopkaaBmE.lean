import Derived.Test.YtdehcohfcbopkaaBmM
import Derived.Test.YtdehcohfcbopkaaBmZ
/- Lists of filters: make, copy. -/
namespace Go.Proofs.Ytdehcohfcbopkaa
open Go.RowKit Go.Sort

/-- 'copy' where an element takes s cells. -/
theorem run_copy_wide {P : Program} (w : World) (dT sT ty elem : TypeId) (s g o dLen dCap : Nat) (ad : Addr) (sp : Option Addr) (sLen sCap : Nat) (cur : Array Value) (t : TypeId) (cs : List Value) (n : Nat)
    (hu : P.underlying dT = some (.slice elem)) (hs : (P.info? elem).map (·.size) = some s)
    (hg : w.heap[g]? = some (.cells cur t (0, 0))) (hn : n = Nat.min sLen dLen) (hc : cs.length = n * s) (hp : sp = some ad ∨ (sp = none ∧ cs = []))
    (hsrc : ∀ j v, cs[j]? = some v → w.cell? (ad.add j) = some v) (hfit : o + cs.length ≤ cur.size) (h1 : ∀ v ∈ cs, v.oneCell' = true) :
    (Builtin.copy_ #[dT, sT] ty #[.slice (some ⟨g, o, none⟩) dLen dCap, .slice sp sLen sCap]).run P w =
      .ok (goInt n) (w.setRow g (cur.toList.take o ++ cs ++ cur.toList.drop (o + cs.length)).toArray) := by
  have hl := run_loadCells_list (P := P) w ad cs hsrc
  have hst := run_storeCells_at P g o t cs 0 cur w hg (by simpa using hfit) h1
  cases hq : P.info? elem with
  | none => simp [hq] at hs
  | some i =>
    have hi : i.size = s := by simpa [hq] using hs
    rw [hc] at hl
    rcases hp with rfl | ⟨rfl, rfl⟩
    · simp [Builtin.copy_, run_underlying hu, Builtin.lenOf, Builtin.firstCells, sizeOf, typeInfo, hq, hi, ← hn, hl, hst]
    · simp only [Nat.add_zero, List.append_nil, List.length_nil] at hst
      simp [Builtin.copy_, run_underlying hu, Builtin.lenOf, Builtin.firstCells, sizeOf, typeInfo, hq, ← hn, hst]
theorem wpList_copy_wide {P : Program} {w : World} {ops : Array Oper} {rest : List Oper} {o : Oper} {a : Act} {Q : Exit → Act → World → Prop} (hgd : o.guard = none) (d x : Operand) (dT sT : TypeId)
    (ho : o.op = .call { callee := .builtin .copy, args := #[d, x], argTypes := #[dT, sT] }) (elem : TypeId) (s : Nat) (hu : P.underlying dT = some (.slice elem)) (hsz : (P.info? elem).map (·.size) = some s)
    (g off dLen dCap : Nat) (ad : Addr) (sp : Option Addr) (sLen sCap : Nat) (hd : a.eval d = .slice (some ⟨g, off, none⟩) dLen dCap) (hs : a.eval x = .slice sp sLen sCap)
    (cur : List Value) (t : TypeId) (hg : w.heap[g]? = some (.cells cur.toArray t (0, 0))) (cs : List Value) (n : Nat) (hn : n = Nat.min sLen dLen) (hc : cs.length = n * s) (hp : sp = some ad ∨ (sp = none ∧ cs = []))
    (hsrc : ∀ j v, cs[j]? = some v → w.cell? (ad.add j) = some v) (hfit : off + cs.length ≤ cur.length) (h1 : ∀ v ∈ cs, v.oneCell' = true) (B : Nat) (w0 : World) (hb : Below B w0 w) (hBg : B ≤ g)
    (h : ∀ w', Hid (w'.heap[g]? = some (.cells (splice cur off cs).toArray t (0, 0))) → Below B w0 w' → wpList P ops Q rest (a.put o.dst (goInt n)) w') : wpList P ops Q (o :: rest) a w := by
  refine wpList_plain hgd fun K hK => ?_
  have hrun := run_copy_wide (P := P) w dT sT o.type elem s g off dLen dCap ad sp sLen sCap cur.toArray t cs n hu hsz hg hn hc hp hsrc (by simpa using hfit) h1
  unfold Oper.wp
  simp [execOp, ho, resolve, invoke, builtin, hd, hs, hrun, Result.andThen]
  refine hK _ _ (h _ ?_ (below_setRow hb hBg _))
  have e := setRow_heap w g cur.toArray (cur.take off ++ (cs ++ cur.drop (off + cs.length))).toArray t _ hg
  exact e
/-- 'make' of filters. -/
theorem info_bloom : (Try.prog.info? 24).map (fun i => (i.zero, i.size, i.bytes)) = some (some (.agg (List.replicate 256 (Value.int .u8 0)).toArray), 256, 256) := by kernel_rfl
theorem madeR {k : Nat} (hk : 0 < k) (n : Nat) (z : Value) : madeCells (List.replicate k z).toArray n = (List.replicate n z).toArray := by
  unfold madeCells
  apply Array.ext
  · simp
  · intro i h1 h2
    have h : i % k < k := Nat.mod_lt _ hk
    simp [getElem!_pos, h]
theorem madeB (n : Nat) : madeCells (List.replicate 256 (Value.int .u8 0)).toArray n = (List.replicate n (Value.int .u8 0)).toArray := madeR (by decide) n _
theorem wpList_make_blooms (w : World) {ops : Array Oper} {rest : List Oper} {o : Oper} {a : Act} {Q : Exit → Act → World → Prop}
    (hg : o.guard = none) (l c : Operand) (hop : o.op = Op.makeSlice 22 l c)
    (kl kc : IntKind) (L C : Int) (m : Nat) (hl : a.eval l = .int kl L) (hc : a.eval c = .int kc C) (eL : L = (m : Int)) (eC : C = (m : Int)) (hm : 256 * m ≤ 281474976710656)
    (hK : wpList Try.prog ops Q rest (a.put o.dst (.slice (some ⟨w.heap.size, 0, none⟩) m m)) (w.alloc (.cells (List.replicate (m * 256) (Value.int .u8 0)).toArray 24))) :
    wpList Try.prog ops Q (o :: rest) a w := by
  subst eL eC
  obtain ⟨i, hi, hz, hs, hby⟩ := info_parts info_bloom
  refine wpList_plain hg fun K hK' => ?_
  have hr := run_make (P := Try.prog) w 22 24 i _ Try.underlying22 hi hz kl kc m m (by omega) (by omega) (by rw [hby]; omega) (by omega)
  have ez : (Value.agg (List.replicate 256 (Value.int .u8 0)).toArray).cells = (List.replicate 256 (Value.int .u8 0)).toArray := rfl
  rw [Int.toNat_natCast, hs, ez, madeB] at hr
  unfold Oper.wp
  generalize (List.replicate (m * 256) (Value.int .u8 0)).toArray = Z at *
  simp [execOp, hop, hl, hc, hr, Result.andThen]
  exact hK' _ _ hK
/-- Filters in a row, one by one. -/
theorem flat_at {j : Nat} (hj : j < 256) : ∀ (l : List (List (BitVec 8))) (k : Nat), (∀ F ∈ l, F.length = 256) → k < l.length → (l.flatMap byts)[k * 256 + j]? = (byts (l.getD k zF))[j]?
  | [], k, _, h => absurd h (Nat.not_lt_zero _)
  | F :: l, k, hl, h => by
    have lF : (byts F).length = 256 := by rw [byts_len]; exact hl F (by simp)
    rw [List.flatMap_cons]
    cases k with
    | zero => rw [Nat.zero_mul, Nat.zero_add, List.getElem?_append_left (by omega)]; rfl
    | succ k =>
      rw [List.getElem?_append_right (by omega), lF, show (k + 1) * 256 + j - 256 = k * 256 + j by omega, flat_at hj l k (fun G hG => hl G (by simp [hG])) (by simpa using h)]
      rfl
theorem flat_len : ∀ (l : List (List (BitVec 8))), (∀ F ∈ l, F.length = 256) → (l.flatMap byts).length = l.length * 256
  | [], _ => rfl
  | F :: l, h => by
    rw [List.flatMap_cons, List.length_append, flat_len l fun G hG => h G (by simp [hG]), byts_len, h F (by simp), List.length_cons]
    omega
theorem Fls.len {W : World} {b o : Nat} {FS : List (List (BitVec 8))} (h : Fls W b o FS) : ∀ F ∈ FS, F.length = 256 := fun F hF => by
  obtain ⟨k, hk, rfl⟩ := List.getElem_of_mem hF
  have := (h k hk).1
  rwa [List.getD, List.getElem?_eq_getElem hk] at this
theorem Fls.flat {W : World} {b o : Nat} {FS : List (List (BitVec 8))} (h : Fls W b o FS) : W.rangeAt b o (FS.flatMap byts) := by
  intro i v hv
  have hi := (List.getElem?_eq_some_iff.1 hv).1
  rw [flat_len FS h.len] at hi
  have hk : i / 256 < FS.length := by omega
  have e := flat_at (j := i % 256) (by omega) FS (i / 256) h.len hk
  rw [show i / 256 * 256 + i % 256 = i by omega, hv] at e
  have c := (h _ hk).2 (i % 256) v e.symm
  rwa [show o + i / 256 * 256 + i % 256 = o + i by omega] at c
end Go.Proofs.Ytdehcohfcbopkaa
