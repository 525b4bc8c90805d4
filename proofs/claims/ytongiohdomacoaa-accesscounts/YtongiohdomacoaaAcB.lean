import Derived.Test.YtongiohdomacoaaAcA
/- Layer 14: the program's Count. -/
namespace Go.Proofs.Ytongiohdomacoaa
open Go.RowKit Go.Sort

theorem wpList_worldE {P : Program} {ops : Array Oper} {Q : Exit → Act → World → Prop} {rest : List Oper} {a : Act} {w : World} (S : World → Prop) (h : S w) (k : ∀ W, S W → wpList P ops Q rest a W) : wpList P ops Q rest a w := k w h
theorem size_en : (Try.prog.info? 36).map (·.size) = some 21 := by kernel_rfl
/-- A block of 21 cells that an entry was stored into. -/
theorem stored_en {w : World} {cs : List Value} {t : TypeId} {z : List Value} (hz : z.length = cs.length) (B : Below w.heap.size w w) :
    (w.alloc (.cells z.toArray t)).there w.heap.size 0 cs.length ∧ ((w.alloc (.cells z.toArray t)).setCells w.heap.size 0 cs).rangeAt w.heap.size 0 cs ∧ Below w.heap.size w ((w.alloc (.cells z.toArray t)).setCells w.heap.size 0 cs) := by
  have hn : (w.alloc (.cells z.toArray t)).heap[w.heap.size]? = some (.cells z.toArray t) := by
    show (w.heap.push _)[w.heap.size]? = _
    simp
  have ht : (w.alloc (.cells z.toArray t)).there w.heap.size 0 cs.length := fun j hj => ⟨by
    rw [Nat.zero_add, cell_of_row _ _ j _ _ _ hn]; simp [hz, hj], by rw [Nat.zero_add]; exact frozen_of_row _ _ j _ _ hn⟩
  refine ⟨ht, World.rangeAt_setCells_same _ _ _ _ ht, ?_⟩
  exact below_setCells (Nat.le_refl _) cs 0 _ (B.alloc (Nat.le_refl _) _)
set_option maxRecDepth 100000 in
set_option maxHeartbeats 8000000 in
/-- The program's Count. -/
theorem count_any {a : Option Addr} {b o c : Nat} {L : List EE} {V : Nat → Value} (hl : L.length ≤ 3000000000000) (hw : WfE L) (ha : AzE a b o L) (w : World) (hE : Es w b o L V) :
    Calls Try.prog 5 #[.slice a L.length c] w fun e w' => e = .returned (.tuple #[.int .i64 L.length, .int .i64 (cntE L L.length)]) ∧ Below w.heap.size w w' := by
  have HA : Hid (AzE a b o L ∧ WfE L ∧ L.length ≤ 3000000000000) := ⟨ha, hw, hl⟩
  have HI : Hid (∀ W, Below w.heap.size w W → Es W b o L V) := fun W B => hE.keep B
  have n1 : (L.length : Int) ≤ 3000000000000 := by omega
  clear hl hw ha hE
  go_enter Try.func5, Try.ntmps5
  go_wp2_with fail
  go_loopg [3, 8] L.length (fun k sv iv wr => ∃ i : Nat, k = L.length - i ∧ i ≤ L.length ∧ sv = .int .i64 (cntE L i) ∧ iv = .int .i64 (i : Int) ∧ Below w.heap.size w wr)
  case atStart => exact ⟨0, rfl, Nat.zero_le _, rfl, rfl, Below.refl _ _⟩
  case round =>
    obtain ⟨i, hk, hi, rfl, rfl, B⟩ := hrel
    have HK : Hid (gk = L.length - i ∧ i ≤ L.length) := ⟨hk, hi⟩
    clear hk
    by_cases h8 : i = L.length
    · subst h8
      clear HK
      go_wp2
      simp [bodyPost, results, Try.results5, go_sem]
      exact B
    · have hlt : i < L.length := by omega
      have hlt' : (i : Int) < (L.length : Int) := by omega
      obtain rfl := HA.out.1.cons (by omega)
      obtain ⟨r1, ak, gk', pk, ck, ev, h2, h3, h4⟩ := HI.out wr B i hlt
      have NX : Hid (cntE L (i + 1) = wrap64 (cntE L i + ((L.getD i zE).K.length : Int))) := rfl
      have hA := (HA.out.2.1 i hlt).1
      rw [ev] at r1
      clear h2 h3 h4 ev hi h8
      have e20 : (cB (L.getD i zE).A ++ [Value.slice ak (L.getD i zE).K.length ck])[20]? = some (Value.slice ak (L.getD i zE).K.length ck) := by
        rw [List.getElem?_append_right (by rw [cB_len, hA]; omega), cB_len, hA]; rfl
      have el : (cB (L.getD i zE).A ++ [Value.slice ak (L.getD i zE).K.length ck]).length = 21 := by rw [List.length_append, cB_len, hA]; rfl
      have eo : ∀ v ∈ cB (L.getD i zE).A ++ [Value.slice ak (L.getD i zE).K.length ck], v.oneCell' = true := fun v hv => by
        rw [List.mem_append] at hv
        rcases hv with hv | hv
        · exact cB_one _ v hv
        · rw [List.mem_singleton] at hv; subst hv; rfl
      have CE : Hid (∃ cs, cs = cB (L.getD i zE).A ++ [Value.slice ak (L.getD i zE).K.length ck]) := ⟨_, rfl⟩
      generalize cB (L.getD i zE).A ++ [Value.slice ak (L.getD i zE).K.length ck] = cs at *
      generalize (L.getD i zE).K.length = n at *
      generalize cntE L i = s at *
      have R1 : Hid (wr.rangeAt b (o + i * 21) cs ∧ cs[20]? = some (Value.slice ak n ck) ∧ cs.length = 21 ∧ ∀ v ∈ cs, v.oneCell' = true) := ⟨r1, e20, el, eo⟩
      have SE : Hid (∀ (z : List Value) (t : TypeId), z.length = cs.length → (wr.alloc (.cells z.toArray t)).there wr.heap.size 0 cs.length ∧ ((wr.alloc (.cells z.toArray t)).setCells wr.heap.size 0 cs).rangeAt wr.heap.size 0 cs ∧ Below wr.heap.size wr ((wr.alloc (.cells z.toArray t)).setCells wr.heap.size 0 cs)) := fun z t hz => stored_en hz (Below.refl _ _)
      clear r1 e20 el eo hA CE
      go_wp2_with (first
        | (refine wpList_load_mid rfl _ _ rfl b (o + i * 21) rfl cs _ R1.out.1 Try.underlying36 rfl (by rw [R1.out.2.2.1]; exact size_en) ?_)
        | ((refine wpList_store_mid rfl _ _ _ rfl wr.heap.size 0 cs.toArray rfl rfl (by show World.there _ _ _ cs.toArray.size; rw [List.size_toArray]; exact (SE.out _ _ (by rw [R1.out.2.2.1]; rfl)).1) (by rw [List.size_toArray, R1.out.2.2.1]; exact size_en) (all_oneCell_toArray R1.out.2.2.2) ?_); (refine wpList_worldE (fun W => Below w.heap.size w W ∧ W.cell? ⟨wr.heap.size, 20, none⟩ = some (.slice ak n ck)) ⟨B.trans ((SE.out _ _ (by rw [R1.out.2.2.1]; rfl)).2.2.mono B.size), (SE.out _ _ (by rw [R1.out.2.2.1]; rfl)).2.1 20 _ R1.out.2.1⟩ ?_); rintro W2 ⟨B2, c2⟩))
      clear B
      go_roundg (L.length - (i + 1))
      case measure => have := HK.out.1; omega
      case rel => exact ⟨i + 1, rfl, hlt, by rw [NX.out], by go_num, B2⟩
end Go.Proofs.Ytongiohdomacoaa
