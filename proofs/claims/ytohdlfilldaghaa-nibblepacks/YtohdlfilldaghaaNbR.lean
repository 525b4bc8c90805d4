import Derived.Test.YtohdlfilldaghaaNbH
/- Layer 11: the document's Of, row, Key. -/
namespace Go.Proofs.Ytohdlfilldaghaa
open Go.RowKit Go.Sort

theorem cells_twoN (w : World) (x y : Value) (t : TypeId) : ∀ j u, [x, y][j]? = some u → (w.alloc (.cells #[x, y] t)).drew.cell? ((⟨w.heap.size, 0, none⟩ : Addr).add j) = some u := cells_two w x y t

set_option maxRecDepth 100000 in
theorem rrow_any {b o c : Nat} {a : Option Addr} {X : List Int} (hl : X.length < 140737488355000) (ha : Az a b o X) (w : World) (hz : Bz w b o X) :
    Calls Try.prog 15 #[.slice a X.length c] w fun e w' => e = .returned (.bool (rowB X)) ∧ w' = w := by
  have HA : Hid (X.length < 140737488355000 ∧ Az a b o X ∧ Bz w b o X) := ⟨hl, ha, hz⟩
  have l1 : (X.length : Int) < 140737488355000 := by omega
  clear hl ha hz
  go_enter Try.func15, Try.ntmps15
  go_wp2_with fail
  go_loopg [3] X.length (fun k iv wr => ∃ i : Nat, k = X.length - i ∧ i ≤ X.length ∧ iv = .int .i64 (i : Int) ∧ rowB (X.take i) = true ∧ wr = w)
  case atStart => exact ⟨0, rfl, Nat.zero_le _, rfl, rfl, rfl⟩
  case round =>
    obtain ⟨i, hk, hi9, rfl, hr, rfl⟩ := hrel
    have HK : Hid (gk = X.length - i ∧ rowB (X.take i) = true) := ⟨hk, hr⟩
    clear hk hr
    by_cases h8 : i = X.length
    · subst h8
      have HT : Hid (rowB X = true) := by have := HK.out.2; rw [List.take_length] at this; exact this
      go_wp2
      simp [bodyPost, results, Try.results15, go_sem]
      exact HT.out
    · have hlt : i < X.length := by omega
      have hlt' : (i : Int) < (X.length : Int) := by omega
      obtain rfl := HA.out.2.1.cons (by omega)
      have gx := HA.out.2.2 i hlt
      by_cases h9 : X.getD i 0 ≤ 15
      · have HR : Hid (rowB (X.take (i + 1)) = true) := rowB_take hlt HK.out.2 h9
        generalize X.getD i 0 = x at *
        have h10 : ¬ (15 < x) := by omega
        clear h9
        go_wp2
        go_roundg (X.length - (i + 1))
        case measure => have := HK.out; omega
        case rel => exact ⟨i + 1, rfl, by omega, by go_num, HR.out, rfl⟩
      · have HR : Hid (rowB X = false) := rowB_not hlt h9
        generalize X.getD i 0 = x at *
        have h10 : 15 < x := by omega
        go_wp2
        simp [bodyPost, results, Try.results15, go_sem]
        exact HR.out
/-- append(v, x...): both lists of one's own. -/
theorem run_append_all {B B' : Nat} {w : World} {v x : Value} {P Q : List Int} {ty : TypeId} (h : OwnB B w v P) (k : OwnB B' w x Q) (hl : P.length + Q.length < 140737488355000) (hB : B ≤ w.heap.size) :
    ∃ v' w', (Builtin.append_ #[22, 22] ty #[v, x]).run Try.prog w = .ok v' w' ∧ OwnB B w' v' (P ++ Q) ∧ w.grownBy w' v.ownBlock := by
  obtain ⟨i0, hi, hz0, hz1, hz2⟩ := info_parts info_byte
  have eo : ∀ {w' : World} {v' : Value}, w'.ownsRow B 5 1 v' (P.length + Q.length) (P.map (Value.int .u8) ++ Q.map (Value.int .u8)) → OwnB B w' v' (P ++ Q) := fun {w'} {v'} h => by
    rw [OwnB, List.length_append, List.map_append]; exact h
  rcases k.2 with ⟨rfl, h0⟩ | ⟨g, cap, cur, rfl, hb, hg, hle, _⟩
  · have e : Q = [] := List.length_eq_zero_iff.1 h0
    subst e
    exact ⟨v, w, run_append_owned_none (P := Try.prog) w B 22 ty 5 i0 1 Try.underlying22 hi v P.length _ h, by rw [List.append_nil]; exact h, World.grownBy.refl _ _⟩
  · obtain ⟨v', w', hr, h2, h3, _, _⟩ := run_append_own_at (P := Try.prog) w B 22 ty 5 i0 (.int .u8 0) 1 1 Try.underlying22 hi hz0 hz1 hz2 rfl (by decide) v P.length _ h ⟨g, 0, none⟩ Q.length cap (Q.map (Value.int .u8)) (by simp) (World.ownsRow.cells k (g := g) rfl) (fun u hu => by obtain ⟨y, _, rfl⟩ := List.mem_map.1 hu; rfl) (by unfold maxLen; omega) (by omega) hB
    exact ⟨v', w', hr, eo h2, h3⟩
theorem wpList_append_all {ops : Array Oper} {rest : List Oper} {o : Oper} {a : Act} {Q : Exit → Act → World → Prop} {w : World} {B B' : Nat} {v x : Value} {P1 Q1 : List Int} (hgd : o.guard = none) (s t : Operand)
    (ho : o.op = .call { callee := .builtin .append, args := #[s, t], argTypes := #[22, 22] }) (hs : a.eval s = v) (hx : a.eval t = x)
    (h : OwnB B w v P1) (k : OwnB B' w x Q1) (hl : P1.length + Q1.length < 140737488355000) (hB : B ≤ w.heap.size)
    (hK : ∀ v' w', OwnB B w' v' (P1 ++ Q1) → w.grownBy w' v.ownBlock → wpList Try.prog ops Q rest (a.put o.dst v') w') :
    wpList Try.prog ops Q (o :: rest) a w := by
  refine wpList_plain hgd fun K hK2 => ?_
  obtain ⟨v', w', hr, h2, h3⟩ := run_append_all (ty := o.type) h k hl hB
  unfold Oper.wp execOp
  simp only [ho, resolve, invoke, builtin, Sem.run_bind, Sem.run_pure, Result.andThen_ok, List.map_toArray, List.map_cons, List.map_nil, hs, hx, hr]
  exact hK2 _ _ (hK v' w' h2 h3)
end Go.Proofs.Ytohdlfilldaghaa
