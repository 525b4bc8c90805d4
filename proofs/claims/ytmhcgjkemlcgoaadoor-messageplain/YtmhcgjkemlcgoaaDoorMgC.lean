import Derived.Test.YtmhcgjkemlcgoaaDoorMgA
import Derived.Test.YtmhcgjkemlcgoaaDoorMgB
import Derived.Test.YtmhcgjkemlcgoaaDoorUtF
import Derived.Test.YtmhcgjkemlcgoaaDoorShelf
import Derived.Lib.SmallJoins
import Derived.Laws.IdiomStrings
/- Decimal texts of lengths; a constant text as bytes; a text turned into bytes. -/
namespace Go.Proofs.YtmhcgjkemlcgoaaDoor
open Go.RowKit Go.Sort
theorem div_natM (n j : Nat) : (n : Int) / 10 ^ j = ((n / 10 ^ j : Nat) : Int) := by
  rw [Int.natCast_ediv, Int.natCast_pow]; rfl
theorem isLen_nd {n k : Nat} (h : IsLen (n : Int) k) : k = Lib.nDigits n := by
  obtain ⟨h1, h2, h3⟩ := h
  rw [div_natM] at h2
  have p : 0 < 10 ^ k := Nat.pow_pos (by decide)
  have q : 0 < 10 ^ (k - 1) := Nat.pow_pos (by decide)
  have h2' : n / 10 ^ k = 0 := by omega
  have a : n < 10 ^ k := by
    rcases Nat.div_eq_zero_iff.1 h2' with e | e
    · omega
    · exact e
  rcases h3 with e | e
  · subst e
    rw [Lib.nDigits_small (by simpa using a)]
  · rw [div_natM] at e
    have b : 10 ^ (k - 1) ≤ n := by
      rcases Nat.lt_or_ge n (10 ^ (k - 1)) with c | c
      · exact absurd (by rw [Nat.div_eq_of_lt c]; rfl) e
      · exact c
    have u := Lib.nDigits_unique (k - 1) n b (by rw [Nat.sub_add_cancel h1]; exact a)
    omega
theorem tx_dec {n k : Nat} (h : IsLen (n : Int) k) : tx (n : Int) k = Lib.decDigits n := by
  have e := isLen_nd h
  rw [Lib.decDigits_eq, ← e]
  refine List.ext_getElem (by simp [tx_len]) fun i hi hj => ?_
  rw [tx_len] at hi
  have t := tx_get (n : Int) hi
  rw [List.getD, List.getElem?_eq_getElem (by rw [tx_len]; exact hi), Option.getD_some] at t
  rw [t, List.getElem_map, List.getElem_range, db, Lib.dg]
  congr 2
/-- The digits of a length, as numbers. -/
def decI (n : Nat) : List Int := (Lib.decDigits n).map fun u : UInt8 => (u.toNat : Int)
theorem decI_bys (n : Nat) : Bys (decI n) := fun x hx => by
  obtain ⟨u, _, rfl⟩ := List.mem_map.1 hx
  have := u.toNat_lt
  exact ⟨by omega, by omega⟩
theorem decI_len (n : Nat) : (decI n).length = Lib.nDigits n := by rw [decI, List.length_map, Lib.decDigits_length]
theorem nd_le {n : Nat} (h : n < 1000000000000000) : Lib.nDigits n ≤ 15 := by
  rcases Nat.lt_or_ge 15 (Lib.nDigits n) with c | c
  · exfalso
    obtain ⟨k, hk, hk2⟩ := len_some (x := (n : Int)) 14 (by rw [div_natM, Nat.div_eq_of_lt h]; rfl)
    have := isLen_nd hk
    omega
  · exact c
theorem rtextM {n : Nat} (hn : n < 1000000000000000) (w : World) : Calls Tryd.prog 13 #[.agg #[.int .u64 (l0 (n : Int)), .int .u64 (l1 (n : Int)), .int .u64 (l2 (n : Int)), .int .u64 (l3 (n : Int))]] w fun e w' => e = .returned (.string ⟨(Lib.decDigits n).toArray⟩) ∧ Below w.heap.size w w' := by
  have hx : Num (n : Int) := ⟨by omega, by omega⟩
  obtain ⟨k, hk, hk2⟩ := len_num hx
  rw [← tx_dec hk]
  exact rtext_walk hx hk hk2 w
/-- Marking a block's end changes no cell. -/
theorem freeze_cellM (W : World) (p a : Addr) (n : Nat) : (W.freeze p n).cell? a = W.cell? a := by
  unfold World.freeze
  split
  · rfl
  · simp only [World.cell?, Array.getElem?_modify]
    by_cases e : p.block = a.block
    · simp only [e, if_true]
      cases W.heap[a.block]? with
      | none => rfl
      | some o => cases o <;> rfl
    · rw [if_neg e]
theorem freeze_belowM {B : Nat} (W : World) {p : Addr} (hp : B ≤ p.block) (n : Nat) : Below B W (W.freeze p n) := by
  unfold World.freeze
  split
  · exact Below.refl B W
  · exact ⟨rfl, rfl, rfl, by simp, fun k hk => by
      simp only [Array.getElem?_modify]
      rw [if_neg (by omega)]⟩
theorem freeze_sizeM (W : World) (p : Addr) (n : Nat) : (W.freeze p n).heap.size = W.heap.size := by
  unfold World.freeze
  split
  · rfl
  · simp
/-- A slice of bytes turned into its own type: one mark. -/
theorem conv_sameM {W : World} {b n c : Nat} {C : Array Value} {fr : Nat × Nat} (h : W.heap[b]? = some (.cells C 5 fr)) :
    (convert 22 22 (.slice (some ⟨b, 0, none⟩) n c)).run Tryd.prog W = .ok (.slice (some ⟨b, 0, none⟩) n c) (W.freeze ⟨b, C.size, none⟩ 1) := by
  have hsh : W.shape? b = some (5, C.size) := by unfold World.shape?; rw [h]
  have ht := Tryd.underlying22
  have he := Tryd.underlying5
  simp [convert, run_underlying ht, run_underlying he, markStringish, hsh]
/-- A text turned into bytes: where they come to lie. -/
theorem conv_textM (l : List UInt8) : ∃ (cp : World → Nat) (R : World → World), (∀ u, (convert 9 22 (.string ⟨l.toArray⟩)).run Tryd.prog u = .ok (.slice (some ⟨u.heap.size, 0, none⟩) l.length (cp u)) (R u)) ∧ (∀ u, l.length ≤ cp u) ∧
    ∀ u, Below u.heap.size u (R u) ∧ (R u).heap.size = u.heap.size + 1 ∧ Bz (R u) u.heap.size 0 (l.map fun x : UInt8 => (x.toNat : Int)) := by
  have sz : (⟨l.toArray⟩ : ByteArray).size = l.length := by simp [ByteArray.size]
  refine ⟨_, _, fun u => by rw [run_bytes_of_string u 9 22 5 ⟨l.toArray⟩ Tryd.underlying9 Tryd.underlying22 Tryd.underlying5, sz], fun u => grownCap_ge u l.length 0 5, fun u => ⟨((Below.refl _ _).drew).alloc (Nat.le_refl _) _, by simp, fun i hi => ?_⟩⟩
  have hi' : i < l.length := by simpa using hi
  rw [show u.heap.size = u.drew.heap.size from rfl, World.cell?_alloc_mark, Nat.zero_add, bytesRow_at _ _ _ (by simpa using hi')]
  simp [List.getD, List.getElem?_eq_getElem hi']
/-- A constant text's bytes, made and marked. -/
theorem freshM (w : World) (L : List Int) (p : Addr) (hp : p.block = w.heap.size) : Below w.heap.size w ((w.alloc (.cells (L.map (Value.int .u8)).toArray 5)).freeze p 1) ∧ w.heap.size < ((w.alloc (.cells (L.map (Value.int .u8)).toArray 5)).freeze p 1).heap.size ∧ Bz ((w.alloc (.cells (L.map (Value.int .u8)).toArray 5)).freeze p 1) w.heap.size 0 L := by
  refine ⟨((Below.refl _ _).alloc (Nat.le_refl _) _).trans (freeze_belowM _ (by omega) _), by rw [freeze_sizeM]; simp, fun i hi => ?_⟩
  rw [freeze_cellM]
  have := rangeBox (W := w) (M := L.map (Value.int .u8)) (t := 5) i (.int .u8 (L.getD i 0)) (by rw [List.getElem?_map, List.getElem?_eq_getElem hi]; simp [List.getD, hi])
  exact this
theorem wpList_convert_sameM {ops : Array Oper} {rest : List Oper} {o : Oper} {a : Act} {Q : Exit → Act → World → Prop} {w : World} (hgd : o.guard = none) (x : Operand) (ho : o.op = .convert 22 22 x) (n c b : Nat) {C : Array Value} {fr : Nat × Nat}
    (hx : a.eval x = .slice (some ⟨b, 0, none⟩) n c) (hC : w.heap[b]? = some (.cells C 5 fr)) (h : wpList Tryd.prog ops Q rest (a.put o.dst (.slice (some ⟨b, 0, none⟩) n c)) (w.freeze ⟨b, C.size, none⟩ 1)) : wpList Tryd.prog ops Q (o :: rest) a w := by
  refine wpList_plain hgd fun K hK => ?_
  have hr := conv_sameM (n := n) (c := c) hC
  unfold Oper.wp execOp
  simp [ho, hx, hr]
  exact hK _ _ h
theorem wpList_convert_textM {ops : Array Oper} {rest : List Oper} {o : Oper} {a : Act} {Q : Exit → Act → World → Prop} {w : World} (hgd : o.guard = none) (x : Operand) (ho : o.op = .convert 9 22 x) (l : List UInt8) (hx : a.eval x = .string ⟨l.toArray⟩)
    (h : ∀ w' c, l.length ≤ c → Below w.heap.size w w' → w.heap.size < w'.heap.size → Bz w' w.heap.size 0 (l.map fun x : UInt8 => (x.toNat : Int)) → wpList Tryd.prog ops Q rest (a.put o.dst (.slice (some ⟨w.heap.size, 0, none⟩) l.length c)) w') : wpList Tryd.prog ops Q (o :: rest) a w := by
  refine wpList_plain hgd fun K hK => ?_
  obtain ⟨cp, R, CV, cge, CR⟩ := conv_textM l
  have hr := CV w
  obtain ⟨h1, h2, h3⟩ := CR w
  unfold Oper.wp execOp
  simp [ho, hx, hr]
  exact hK _ _ (h _ _ (cge w) h1 (by omega) h3)
end Go.Proofs.YtmhcgjkemlcgoaaDoor
