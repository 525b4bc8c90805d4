import Derived.Test.YtagcbcmbojggkaaDoorFApp
import Derived.Laws.CopyOwn
import Derived.Deep.LoopGhost
import Derived.OwnWalk
import Derived.Deep.OwnRows
/- make and copy of lists of numbers. -/
namespace Go.Proofs.YtagcbcmbojggkaaDoor
open Go.RowKit Go.Sort

theorem run_copy_four {P : Program} (w : World) (dT sT ty elem : TypeId) (s g o dLen dCap : Nat) (ad : Addr) (sp : Option Addr) (sLen sCap : Nat) (cur : Array Value) (t : TypeId) (cs : List Value) (n : Nat)
    (hu : P.underlying dT = some (.slice elem)) (hs : (P.info? elem).map (·.size) = some s)
    (hg : w.heap[g]? = some (.cells cur t (0, 0))) (hn : n = Nat.min sLen dLen) (hc : cs.length = n * s) (hp : sp = some ad ∨ (sp = none ∧ cs = []))
    (hsrc : ∀ j v, cs[j]? = some v → w.cell? (ad.add j) = some v) (hfit : o + cs.length ≤ cur.size) (h1 : ∀ v ∈ cs, v.oneCell' = true) :
    (Builtin.copy_ #[dT, sT] ty #[.slice (some ⟨g, o, none⟩) dLen dCap, .slice sp sLen sCap]).run P w =
      .ok (goInt n) (w.setRow g (cur.toList.take o ++ cs ++ cur.toList.drop (o + cs.length)).toArray) := by
  have hl := run_loadCells_list (P := P) w ad cs hsrc
  have hst := run_storeCells_at P g o t cs 0 cur w hg (by simpa using hfit) h1
  cases hq : P.info? elem with
  | none => simp [hq] at hs
  | some i =>
    have hi : i.size = s := by simpa [hq] using hs
    rw [hc] at hl
    rcases hp with rfl | ⟨rfl, rfl⟩
    · simp [Builtin.copy_, run_underlying hu, Builtin.lenOf, Builtin.firstCells, sizeOf, typeInfo, hq, hi, ← hn, hl, hst]
    · simp only [Nat.add_zero, List.append_nil, List.length_nil] at hst
      simp [Builtin.copy_, run_underlying hu, Builtin.lenOf, Builtin.firstCells, sizeOf, typeInfo, hq, ← hn, hst]
theorem wpList_copy_four {P : Program} {w : World} {ops : Array Oper} {rest : List Oper} {o : Oper} {a : Act} {Q : Exit → Act → World → Prop} (hgd : o.guard = none) (d x : Operand) (dT sT : TypeId)
    (ho : o.op = .call { callee := .builtin .copy, args := #[d, x], argTypes := #[dT, sT] }) (elem : TypeId) (s : Nat) (hu : P.underlying dT = some (.slice elem)) (hsz : (P.info? elem).map (·.size) = some s)
    (g off dLen dCap : Nat) (ad : Addr) (sp : Option Addr) (sLen sCap : Nat) (hd : a.eval d = .slice (some ⟨g, off, none⟩) dLen dCap) (hs : a.eval x = .slice sp sLen sCap)
    (cur : List Value) (t : TypeId) (hg : w.heap[g]? = some (.cells cur.toArray t (0, 0))) (cs : List Value) (n : Nat) (hn : n = Nat.min sLen dLen) (hc : cs.length = n * s) (hp : sp = some ad ∨ (sp = none ∧ cs = []))
    (hsrc : ∀ j v, cs[j]? = some v → w.cell? (ad.add j) = some v) (hfit : off + cs.length ≤ cur.length) (h1 : ∀ v ∈ cs, v.oneCell' = true) (B : Nat) (w0 : World) (hb : Below B w0 w) (hBg : B ≤ g)
    (h : ∀ w', Hid (w'.heap[g]? = some (.cells (splice cur off cs).toArray t (0, 0))) → Below B w0 w' → wpList P ops Q rest (a.put o.dst (goInt n)) w') : wpList P ops Q (o :: rest) a w := by
  refine wpList_plain hgd fun K hK => ?_
  have hrun := run_copy_four (P := P) w dT sT o.type elem s g off dLen dCap ad sp sLen sCap cur.toArray t cs n hu hsz hg hn hc hp hsrc (by simpa using hfit) h1
  unfold Oper.wp
  simp [execOp, ho, resolve, invoke, builtin, hd, hs, hrun, Result.andThen]
  refine hK _ _ (h _ ?_ (below_setRow hb hBg _))
  have e := setRow_heap w g cur.toArray (cur.take off ++ (cs ++ cur.drop (off + cs.length))).toArray t _ hg
  exact e
theorem madeF {k : Nat} (hk : 0 < k) (n : Nat) (z : Value) : madeCells (List.replicate k z).toArray n = (List.replicate n z).toArray := by
  unfold madeCells
  apply Array.ext
  · simp
  · intro i h1 h2
    have h : i % k < k := Nat.mod_lt _ hk
    simp [getElem!_pos, h]
theorem wpList_make_wide {P : Program} (w : World) {ops : Array Oper} {rest : List Oper} {o : Oper} {a : Act} {Q : Exit → Act → World → Prop}
    (hg : o.guard = none) (l c : Operand) (t : TypeId) (hop : o.op = Op.makeSlice t l c)
    (e : TypeId) (i : TypeInfo) (z : Value) (ht : P.underlying t = some (.slice e)) (hi : P.info? e = some i) (hz : i.zero = some z) (hsize : i.size = 4) (hby : i.bytes = 32)
    (kl kc : IntKind) (L C : Int) (n : Nat) (hl : a.eval l = .int kl L) (hc : a.eval c = .int kc C) (eL : L = (n : Int)) (eC : C = (n : Int)) (hm : n ≤ 8796093022207)
    (hK : wpList P ops Q rest (a.put o.dst (.slice (some ⟨w.heap.size, 0, none⟩) n n)) (w.alloc (.cells (madeCells z.cells (n * 4)) e))) :
    wpList P ops Q (o :: rest) a w := by
  subst eL eC
  refine wpList_plain hg fun K hK' => ?_
  have hr := run_make (P := P) w t e i z ht hi hz kl kc n n (by omega) (by omega) (by rw [hby]; omega) (by omega)
  simp only [Int.toNat_natCast, hsize] at hr
  unfold Oper.wp
  simp [execOp, hop, hl, hc, hr, Result.andThen]
  exact hK' _ _ hK

theorem numsV_app : ∀ (L M : List Int), numsV L ++ numsV M = numsV (L ++ M)
  | [], _ => rfl
  | _ :: L, M => by simp only [numsV, List.cons_append, numsV_app L M]
theorem numsV_zero : ∀ n : Nat, numsV (List.replicate n 0) = List.replicate (n * 4) (.int .u64 0)
  | 0 => rfl
  | n + 1 => by
    obtain ⟨z0, z1, z2, z3⟩ := zero_limbs
    rw [List.replicate_succ, numsV, numsV_zero n, z0, z1, z2, z3, show (n + 1) * 4 = n * 4 + 1 + 1 + 1 + 1 by omega]
    rfl
theorem copied_nums (L : List Int) (n : Nat) (hn : L.length = n) : splice (madeCells #[Value.int .u64 0, .int .u64 0, .int .u64 0, .int .u64 0] ((n + 9) * 4)).toList 0 (numsV L) = numsV (L ++ List.replicate 9 0) := by
  have e : madeCells #[Value.int .u64 0, .int .u64 0, .int .u64 0, .int .u64 0] ((n + 9) * 4) = (List.replicate ((n + 9) * 4) (Value.int .u64 0)).toArray := madeF (k := 4) (by decide) _ _
  rw [e, splice, ← numsV_app, numsV_zero, List.drop_replicate, numsV_len, hn, show (n + 9) * 4 - (0 + n * 4) = 9 * 4 by omega, List.take_zero, List.nil_append]
theorem own4_of {W : World} {b : Nat} {G : List Int} (h : W.heap[b]? = some (.cells (numsV G).toArray 25 (0, 0))) : Own4 W b G := by
  refine ⟨fun i hi => ?_, fun i _ => frozen_of_row W b i _ _ h, ⟨_, h, by simp [numsV_len]⟩⟩
  obtain ⟨a0, a1, a2, a3⟩ := numsV_at G i hi
  simp only [Nat.zero_add]
  rw [cell_of_row W b _ _ _ _ h, cell_of_row W b _ _ _ _ h, cell_of_row W b _ _ _ _ h, cell_of_row W b _ _ _ _ h]
  simpa using ⟨a0, a1, a2, a3⟩
end Go.Proofs.YtagcbcmbojggkaaDoor
