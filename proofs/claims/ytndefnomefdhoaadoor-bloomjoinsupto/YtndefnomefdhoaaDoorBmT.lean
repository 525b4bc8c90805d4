import Derived.Test.YtndefnomefdhoaaDoorBmS
import Derived.Test.YtndefnomefdhoaaDoorBmZ
import Derived.Test.YtndefnomefdhoaaDoorQTail
import Derived.Laws.OwnMore
/- BloomJoins: numbers, lists of parts. -/
namespace Go.Proofs.YtndefnomefdhoaaDoor
open Go.RowKit Go.Sort

theorem joins_or {XA XB XT : List (List (BitVec 8))} (h : ∀ X, X ∈ XT ↔ X ∈ XA ∨ X ∈ XB) : ofF XT = orF (ofF XA) (ofF XB) := by
  refine ext_F (ofF_len _) (orF_len (ofF_len _) (ofF_len _)) fun j hj => ?_
  rw [tF_or (ofF_len _) (ofF_len _), tF_of hj, tF_of hj, tF_of hj, ← Bool.decide_or]
  apply decide_eq_decide.2
  simp only [List.mem_flatMap]
  constructor
  · rintro ⟨X, hX, hj⟩
    rcases (h X).1 hX with e | e
    · exact .inl ⟨X, e, hj⟩
    · exact .inr ⟨X, e, hj⟩
  · rintro (⟨X, hX, hj⟩ | ⟨X, hX, hj⟩)
    · exact ⟨X, (h X).2 (.inl hX), hj⟩
    · exact ⟨X, (h X).2 (.inr hX), hj⟩
theorem joins_step {XA XB SX : List (List (BitVec 8))} (h : ∀ X, X ∈ SX ↔ X ∈ XA) : setsF (ofF XB) (SX.flatMap plL) = orF (ofF XA) (ofF XB) := by
  refine ext_F (setsF_len _ (ofF_len _)) (orF_len (ofF_len _) (ofF_len _)) fun j hj => ?_
  rw [tF_sets _ (ofF_len _) (fun x hx => by obtain ⟨X, _, h⟩ := List.mem_flatMap.1 hx; exact plL_lt h) j hj, tF_or (ofF_len _) (ofF_len _), tF_of hj, tF_of hj, Bool.or_comm]
  congr 1
  apply decide_eq_decide.2
  simp only [List.mem_flatMap, h]
theorem has_in {XT : List (List (BitVec 8))} {X : List (BitVec 8)} (h : X ∈ XT) : hasT (ofF XT) X = true := by
  have k : ∀ i, plN X i ∈ plL X → tF (ofF XT) (plN X i) = true := fun i hi => by
    rw [tF_of (plN_lt X i)]
    exact decide_eq_true (List.mem_flatMap.2 ⟨X, h, hi⟩)
  rw [hasT, k 0 (by simp [plL]), k 1 (by simp [plL]), k 2 (by simp [plL])]
  rfl
theorem some_in {XT : List (List (BitVec 8))} {X : List (BitVec 8)} (h : X ∈ XT) : ofF XT ≠ zF := fun e => by
  have k : tF (ofF XT) (plN X 0) = true := by
    rw [tF_of (plN_lt X 0)]
    exact decide_eq_true (List.mem_flatMap.2 ⟨X, h, by simp [plL]⟩)
  rw [e, tF_zero] at k
  cases k
/-- Parts in a list of one's own. -/
def OwV (B : Nat) (W : World) (v : Value) (TS : List Part) : Prop := W.ownsRow B 28 1 v TS.length (TS.map Part.val)
theorem OwV.keep {B : Nat} {W W' : World} {v : Value} {TS : List Part} (h : OwV B W v TS) (hb : Below W.heap.size W W') : OwV B W' v TS := own_same h fun k hk => hb.block k (World.ownsRow.lt h k hk).2
theorem OwV.prts {B : Nat} {W : World} {v : Value} {TS : List Part} (h : OwV B W v TS) (hok : ∀ p ∈ TS, p.ok W) : ∃ a g c, v = .slice a TS.length c ∧ (TS = [] ∨ a = some ⟨g, 0, none⟩) ∧ TS.length ≤ c ∧ Prts W g 0 TS := by
  rcases h.2 with ⟨e, hx⟩ | ⟨g, cap, cur, e, hg, hc, hle, _⟩
  · have hx' : TS = [] := List.length_eq_zero_iff.1 hx
    subst hx'
    exact ⟨none, 0, 0, e, .inl rfl, Nat.le_refl _, fun i hi => absurd hi (Nat.not_lt_zero _)⟩
  · refine ⟨_, g, cap, e, .inr rfl, hle, fun i hi => ?_⟩
    subst e
    have hm : TS.getD i .none ∈ TS := by rw [List.getD, List.getElem?_eq_getElem hi]; exact List.getElem_mem hi
    refine ⟨?_, hok _ hm⟩
    have hc := World.ownsRow.cellAt h i (by omega)
    rw [Nat.zero_add, hc]
    simp [List.getD, hi]
theorem Blm.grownBy {W W' : World} {b : Nat} {F : List (BitVec 8)} {row : Option Nat} (h : Blm W b F) (hg : W.grownBy W' row) (hne : some b ≠ row) : Blm W' b F := by
  have eb := hg.block b h.lt hne
  exact ⟨h.1, fun j hj => by rw [World.cell?_of_block (w := W) (a := ⟨b, j, none⟩) eb]; exact h.2.1 j hj, fun j hj => by rw [World.frozen?_of_block eb]; exact h.2.2 j hj⟩
theorem info_bytesT : (Tryd.prog.info? 28).map (fun i => (i.zero, i.size, i.bytes)) = some (some (.slice none 0 0), 1, 24) := by kernel_rfl
theorem cells_new (w : World) (vs : List Value) (t : TypeId) (b : Nat) (e : b = w.heap.size) : ∀ j u, vs[j]? = some u → (w.alloc (.cells vs.toArray t)).cell? ((⟨b, 0, none⟩ : Addr).add j) = some u := by
  subst e
  intro j u hu
  rw [Addr.add_mid, Nat.zero_add, World.cell?_alloc_mark]
  simpa using hu
theorem wp_append_own {P : Program} {w : World} {o : Oper} {a : Act} {K : Act → World → Prop} {Q : Exit → Act → World → Prop} (s x : Operand) (t : TypeId)
    (ho : o.op = .call { callee := .builtin .append, args := #[s, x], argTypes := #[t, t] })
    (base : Nat) (e : TypeId) (i : TypeInfo) (z : Value) (size bytes : Nat) (ht : P.underlying t = some (.slice e)) (hi : P.info? e = some i) (hz : i.zero = some z)
    (hsize : i.size = size) (hby : i.bytes = bytes) (hzs : z.cells.size = size) (hsz : 0 < size)
    (v : Value) (n : Nat) (xs : List Value) (hs : a.eval s = v) (hown : w.ownsRow base e size v n xs)
    (ad : Addr) (m c : Nat) (news : List Value) (hx : a.eval x = .slice (some ad) m c) (hl : news.length = m * size) (hnews : ∀ j u, news[j]? = some u → w.cell? (ad.add j) = some u) (h1 : ∀ u ∈ news, u.oneCell' = true)
    (h63 : n + m ≤ maxLen) (hbytes : (n + m) * bytes ≤ 140737488355328) (hbase : base ≤ w.heap.size)
    (h : ∀ v' w', w'.ownsRow base e size v' (n + m) (xs ++ news) → w.grownBy w' v.ownBlock → (v'.ownBlock = v.ownBlock ∨ v'.ownBlock = some w.heap.size) → K (a.put o.dst v') w') : o.wp P a w K Q := by
  obtain ⟨v', w', hr, h2, h3, h4, h5⟩ := run_append_own_at (P := P) w base t o.type e i z size bytes ht hi hz hsize hby hzs hsz v n xs hown ad m c news hl hnews h1 h63 hbytes hbase
  unfold Oper.wp execOp
  simp only [ho, resolve, invoke, builtin, Sem.run_bind, Sem.run_pure, Result.andThen_ok, List.map_toArray, List.map_cons, List.map_nil, hs, hx, hr]
  exact h v' w' h2 h3 h5
end Go.Proofs.YtndefnomefdhoaaDoor
