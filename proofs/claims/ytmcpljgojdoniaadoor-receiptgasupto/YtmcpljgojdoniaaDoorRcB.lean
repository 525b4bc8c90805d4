import Derived.Test.YtmcpljgojdoniaaDoorRcO
import Derived.Test.YtmcpljgojdoniaaDoorTsF
/- receipt.Gas of both sides. -/
namespace Go.Proofs.YtmcpljgojdoniaaDoor.tq
open Go.RowKit Go.Sort
/-- What each used, from what was used up to it. -/
def gasP (acc : List Int) (last : Int) : List Int → Option (List Int)
  | [] => some acc
  | u :: us => if u < last then none else gasP (acc ++ [u - last]) u us
def prevU (us : List Int) : Nat → Int
  | 0 => 0
  | i + 1 => us.getD i 0
def gasL (us : List Int) : List Int := (gasP [] 0 us).getD []
def gasE (us : List Int) : Int := if (gasP [] 0 us).isSome then 0 else 172
theorem drop_getD {us : List Int} {i : Nat} (h : i < us.length) : us.drop i = us.getD i 0 :: us.drop (i + 1) := by
  rw [List.drop_eq_getElem_cons h, List.getD, List.getElem?_eq_getElem h]; rfl
theorem gasP_len {us : List Int} : ∀ {acc : List Int} {last : Int} {L : List Int}, gasP acc last us = some L → L.length = acc.length + us.length := by
  induction us with
  | nil => intro acc last L h; rw [gasP] at h; rw [← Option.some.inj h]; rfl
  | cons u us ih =>
    intro acc last L h
    rw [gasP] at h
    split at h
    · cases h
    · rw [ih h, List.length_append, List.length_cons, List.length_cons, List.length_nil]; omega
theorem gasP_acc {us : List Int} : ∀ {acc : List Int} {last : Int} {L : List Int}, gasP acc last us = some L → ∀ i, i < acc.length → L.getD i 0 = acc.getD i 0 := by
  induction us with
  | nil => intro acc last L h i _; rw [gasP] at h; rw [← Option.some.inj h]
  | cons u us ih =>
    intro acc last L h i hi
    rw [gasP] at h
    split at h
    · cases h
    · rw [ih h i (by rw [List.length_append]; exact Nat.lt_of_lt_of_le hi (Nat.le_add_right _ _))]
      simp [List.getD, List.getElem?_append_left hi]
theorem gasP_at {us : List Int} : ∀ {acc : List Int} {last : Int} {L : List Int}, gasP acc last us = some L → ∀ i, i < us.length → L.getD (acc.length + i) 0 = us.getD i 0 - (if i = 0 then last else us.getD (i - 1) 0) := by
  induction us with
  | nil => intro acc last L h i hi; simp at hi
  | cons u us ih =>
    intro acc last L h i hi
    rw [gasP] at h
    split at h
    · cases h
    · cases i with
      | zero =>
        rw [gasP_acc h (acc.length + 0) (by simp)]
        simp [List.getD]
      | succ j =>
        have := ih h j (by simpa using hi)
        rw [List.length_append, List.length_singleton, show acc.length + 1 + j = acc.length + (j + 1) by omega] at this
        rw [this]
        cases j with
        | zero => simp [List.getD]
        | succ k => simp [List.getD]
/-- What the law asks of it. -/
theorem gasP_is {us L : List Int} (h : gasP [] 0 us = some L) : L.length = us.length ∧ ∀ i, i < us.length → L.getD i 0 = us.getD i 0 - prevU us i := by
  refine ⟨by rw [gasP_len h]; simp, fun i hi => ?_⟩
  have := gasP_at h i hi
  rw [List.length_nil, Nat.zero_add] at this
  rw [this]
  cases i with
  | zero => rfl
  | succ j => rfl
/-- What a list of receipts tells of gas. -/
def UsR (W : World) (a : Option Addr) (b o c : Nat) (us : List Int) : Prop := (us.length ≤ c ∧ (a = none → c = 0)) ∧ (us = [] ∨ a = some ⟨b, o, none⟩) ∧ ∀ i, i < us.length → Word (us.getD i 0) ∧ W.cell? ⟨b, o + i * 293 + 35, none⟩ = some (.int .u64 (us.getD i 0))
theorem UsR.keep {W W' : World} {a : Option Addr} {b o c : Nat} {us : List Int} (h : UsR W a b o c us) (B : Below W.heap.size W W') : UsR W' a b o c us := ⟨h.1, h.2.1, fun i hi => ⟨(h.2.2 i hi).1, cell_keep B (h.2.2 i hi).2⟩⟩
def v6 (L : List Int) : List Value := L.map (Value.int .u64)
theorem v6_len (L : List Int) : (v6 L).length = L.length := List.length_map _
theorem v6_app (L M : List Int) : v6 (L ++ M) = v6 L ++ v6 M := List.map_append
theorem v6_one (L : List Int) : ∀ u ∈ v6 L, u.oneCell' = true := fun u hu => by
  obtain ⟨y, _, rfl⟩ := List.mem_map.1 hu; rfl
/-- A list of numbers of one's own. -/
def OwG (B : Nat) (W : World) (v : Value) (L : List Int) : Prop := W.ownsRow B 25 1 v L.length (v6 L)
theorem OwG.keep {B : Nat} {W W' : World} {v : Value} {L : List Int} (h : OwG B W v L) (hb : Below W.heap.size W W') : OwG B W' v L := row_keep h hb
theorem rI_6 : rowInfo Tryd.prog 25 1 8 = true := by kernel_rfl
theorem mulI {x m : Nat} (h : m * x ≤ 140737488355328) : (x : Int) * (m : Int) ≤ 281474976710656 := by
  have h2 : ((x * m : Nat) : Int) ≤ 281474976710656 := by
    rw [Nat.mul_comm]
    omega
  rwa [Int.natCast_mul] at h2
/-- make([]T, n) of rows: the cells are anything. -/
theorem wpList_make_row {k bytes : Nat} {ts e : TypeId} (w : World) {ops : Array Oper} {rest : List Oper} {o : Oper} {a : Act} {Q : Exit → Act → World → Prop}
    (ht : Tryd.prog.underlying ts = some (.slice e)) (hI : rowInfo Tryd.prog e k bytes = true) (hg : o.guard = none) (l c : Operand) (hop : o.op = Op.makeSlice ts l c)
    (kl kc : IntKind) (L C : Int) (m : Nat) (hl : a.eval l = .int kl L) (hc : a.eval c = .int kc C) (eL : L = (m : Int)) (eC : C = (m : Int)) (hm : m ≤ 4000000000000) (hb : m * bytes ≤ 140737488355328)
    (hK : ∀ cs : Array Value, cs.size = m * k → wpList Tryd.prog ops Q rest (a.put o.dst (.slice (some ⟨w.heap.size, 0, none⟩) m m)) (w.alloc (.cells cs e))) :
    wpList Tryd.prog ops Q (o :: rest) a w := by
  subst eL eC
  obtain ⟨i, z, hi, hz, hs, hby, hzs⟩ := rowInfo_of hI
  refine wpList_plain hg fun K hK' => ?_
  have hr := run_make (P := Tryd.prog) w ts e i z ht hi hz kl kc m m (by omega) (by omega) (by rw [hby]; exact mulI hb) (by omega)
  rw [Int.toNat_natCast, hs] at hr
  unfold Oper.wp
  obtain ⟨Z, eZ⟩ : ∃ Z, Z = madeCells z.cells (m * k) := ⟨_, rfl⟩
  rw [← eZ] at hr
  have hsz : Z.size = m * k := by rw [eZ]; simp [madeCells]
  clear eZ
  simp [execOp, hop, hl, hc, hr, Result.andThen]
  exact hK' _ _ (hK Z hsz)
end Go.Proofs.YtmcpljgojdoniaaDoor.tq
