import Derived.Test.YtongiohdomacoaaAcJ
import Derived.ProofKit
import Derived.OpenShut
import Derived.SizedLaws
import Derived.Carry
import Derived.ChangeMaps5
import Derived.ChangeSlices
import Derived.Deep.Slices
/- Layer 14: access lists as arguments. -/
namespace Go.Proofs.Ytongiohdomacoaa.ac
open Go.ChangeShapes Go.WideShapes Go.ChangeAt Go.RowKit Go.Deep

theorem laidOut : laidOutB Try.prog = true := by kernel_rfl
theorem cells5 : Try.prog.cellsOf 5 = 1 := by kernel_rfl
theorem cellsK : Try.prog.cellsOf 34 = 1 := by kernel_rfl
theorem cellsE : Try.prog.cellsOf 36 = 21 := by kernel_rfl
theorem bytesH : Try.prog.bytesOf 26 = 32 := by kernel_rfl
theorem bytesE : Try.prog.bytesOf 36 = 48 := by kernel_rfl
theorem reach_eq : reachBytes = 140737488351232 := by decide
theorem list_of {α : Type} {p : Nat → α → Prop} (z : α) : ∀ n, (∀ i, i < n → ∃ a, p i a) → ∃ L : List α, L.length = n ∧ ∀ i, i < n → p i (L.getD i z)
  | 0, _ => ⟨[], rfl, fun _ h => absurd h (Nat.not_lt_zero _)⟩
  | n + 1, h => by
    obtain ⟨L, hl, hp⟩ := list_of z n fun i hi => h i (by omega)
    obtain ⟨a, ha⟩ := h n (by omega)
    refine ⟨L ++ [a], by simp [hl], fun i hi => ?_⟩
    by_cases e : i = n
    · subst e; simpa [List.getD, ← hl] using ha
    · have h1 := hp i (by omega)
      simpa [List.getD, List.getElem?_append_left (show i < L.length by omega)] using h1
theorem mapM_all {α β : Type} {f : α → Option β} {g : α → β} : ∀ (l : List α), (∀ i ∈ l, f i = some (g i)) → l.mapM f = some (l.map g)
  | [], _ => rfl
  | a :: l, h => by
    rw [List.mapM_cons, h a (by simp), mapM_all l fun i hi => h i (by simp [hi])]
    rfl
theorem flat_nil {α β γ : Type} (f : α → β) : ∀ L : List α, ((L.map fun x => (f x, ([] : List γ))).flatMap (·.2)) = []
  | [] => rfl
  | _ :: L => by rw [List.map_cons, List.flatMap_cons, flat_nil f L]; rfl
/-- How a row of bytes reads. -/
noncomputable def dat {H : Type} (X : List Int) : DataW H := .agg (X.map fun x => .lit (.int .u8 x))
def Wfb (X : List Int) : Prop := ∀ x ∈ X, (Lit.int .u8 x).wf = true
section
variable {H : Type} {enc : TypeId × Value → H} {w : World} {base : Nat} {spare : Nat → Bool} {held : Bool}
theorem cells_adN : Try.prog.cellsOf 24 = 20 := by kernel_rfl
set_option maxRecDepth 100000 in
theorem cells_ad {fuel : Nat} {cs : List Value} {x : DataW H × List MemPlace} (hf : DataW.trod enc Try.prog w base spare held fuel 24 cs = some x) :
    ∃ X : List Int, X.length = 20 ∧ Wfb X ∧ cs = cB X ∧ x = (dat X, []) := by
  obtain ⟨xs, m, rfl, hx, hl, hn, hi⟩ := DataW.trod_array Try.underlying24 hf
  simp only [cells5, Nat.mul_one] at hi hl
  rw [cells_adN] at hl
  obtain ⟨X, hX, hp⟩ := list_of (p := fun i (b : Int) => cs[i]? = some (.int .u8 b) ∧ (Lit.int .u8 b).wf = true ∧ xs[i]? = some (.lit (.int .u8 b), [])) 0 20 (fun i h => by
    have h1 := hi i h
    rw [List.getElem?_eq_getElem (by omega)] at h1
    obtain ⟨b, e1, e2, e3⟩ := DataW.trod_int Try.underlying5 h1
    refine ⟨b, ?_, e3, ?_⟩
    · have := congrArg (·[0]?) e1
      simpa [List.getElem?_take, List.getElem?_drop] using this
    · rw [List.getElem?_eq_getElem (by omega), e2])
  have e1 : cs = cB X := by
    apply List.ext_getElem?
    intro i
    by_cases h : i < 20
    · rw [(hp i h).1]; simp [cB, List.getD, show i < X.length by omega]
    · rw [List.getElem?_eq_none (by omega), List.getElem?_eq_none (by rw [cB_len]; omega)]
  have e2 : xs = X.map fun x => (.lit (.int .u8 x), []) := by
    apply List.ext_getElem?
    intro i
    by_cases h : i < 20
    · rw [(hp i h).2.2]; simp [List.getD, show i < X.length by omega]
    · rw [List.getElem?_eq_none (by omega), List.getElem?_eq_none (by simp; omega)]
  refine ⟨X, hX, fun z hz => ?_, e1, ?_⟩
  · obtain ⟨i, hi', rfl⟩ := List.getElem_of_mem hz
    have := (hp i (by omega)).2.1
    rwa [List.getD, List.getElem?_eq_getElem hi'] at this
  · rw [e2] at hx
    rw [hx, dat, flat_nil]
    simp [Function.comp_def]
theorem open_ad {r : Reach} {b0 : Nat} {v : Value} {d : DataW H} {p : List MemPlace} (hv : Value.okWide Try.prog w r b0 24 v) (h : DataW.Trod enc Try.prog w base spare held 24 v d p) :
    ∃ X : List Int, X.length = 20 ∧ Wfb X ∧ v = .agg (cB X).toArray ∧ d = dat X ∧ p = [] := by
  obtain ⟨cs, rfl, hsz⟩ : ∃ cs : Array Value, v = .agg cs ∧ cs.size = 20 := by
    simp only [Value.okWide, Try.underlying24] at hv
    obtain ⟨cs, h1, h2, _⟩ := hv
    exact ⟨cs, h1, h2.trans cells_adN⟩
  obtain ⟨fuel, hf⟩ := h
  obtain ⟨X, h1, h2, h3, h4⟩ := cells_ad hf
  simp only [Prod.mk.injEq] at h4
  refine ⟨X, h1, h2, ?_, h4.1, h4.2⟩
  have e : cs = (cB X).toArray := by
    apply Array.toList_inj.1
    simpa [Value.cells] using h3
  rw [e]
set_option maxRecDepth 100000 in
theorem shut_ad {X : List Int} (hl : X.length = 20) (hw : Wfb X) : DataW.Trod enc Try.prog w base spare held 24 (.agg (cB X).toArray) (dat X) [] := by
  refine ⟨2, ?_⟩
  have h : (List.range 20).mapM (fun i => DataW.trod enc Try.prog w base spare held 1 5 (((cB X).drop (i * 1)).take 1)) = some ((List.range 20).map fun i => (.lit (.int .u8 (X.getD i 0)), [])) := by
    apply mapM_all
    intro i hi
    have hi' : i < 20 := List.mem_range.1 hi
    have e : ((cB X).drop (i * 1)).take 1 = [.int .u8 (X.getD i 0)] := by
      rw [Nat.mul_one]
      apply List.ext_getElem?
      intro j
      cases j with
      | zero => simp [List.getElem?_drop, cB, List.getD, show i < X.length by omega]
      | succ j => simp [List.getElem?_take]
    have wf : (Lit.int .u8 (X.getD i 0)).wf = true := hw _ (by rw [List.getD, List.getElem?_eq_getElem (by omega)]; exact List.getElem_mem (by omega))
    have wf' : (Lit.int .u8 (X[i]?.getD 0)).wf = true := wf
    rw [e]
    simp [DataW.trod, Try.underlying5, wf']
  have e : (List.range 20).map (fun i => (DataW.lit (.int .u8 (X.getD i 0)) : DataW H)) = X.map fun x => .lit (.int .u8 x) := by
    apply List.ext_getElem?
    intro i
    by_cases h : i < 20
    · simp [h, List.getD, show i < X.length by omega]
    · rw [List.getElem?_eq_none (by simp; omega), List.getElem?_eq_none (by simp; omega)]
  unfold DataW.trod
  simp only [Value.cells, Try.underlying24, cells_adN, cells5]
  rw [if_pos (by simp [cB_len, hl]), show (1 : Nat) = 1 from rfl]
  rw [h]
  rw [Option.map_some, flat_nil, List.map_map, dat, ← e]
  rfl
theorem cells_haN : Try.prog.cellsOf 26 = 32 := by kernel_rfl
set_option maxRecDepth 100000 in
theorem cells_ha {fuel : Nat} {cs : List Value} {x : DataW H × List MemPlace} (hf : DataW.trod enc Try.prog w base spare held fuel 26 cs = some x) :
    ∃ X : List Int, X.length = 32 ∧ Wfb X ∧ cs = cB X ∧ x = (dat X, []) := by
  obtain ⟨xs, m, rfl, hx, hl, hn, hi⟩ := DataW.trod_array Try.underlying26 hf
  simp only [cells5, Nat.mul_one] at hi hl
  rw [cells_haN] at hl
  obtain ⟨X, hX, hp⟩ := list_of (p := fun i (b : Int) => cs[i]? = some (.int .u8 b) ∧ (Lit.int .u8 b).wf = true ∧ xs[i]? = some (.lit (.int .u8 b), [])) 0 32 (fun i h => by
    have h1 := hi i h
    rw [List.getElem?_eq_getElem (by omega)] at h1
    obtain ⟨b, e1, e2, e3⟩ := DataW.trod_int Try.underlying5 h1
    refine ⟨b, ?_, e3, ?_⟩
    · have := congrArg (·[0]?) e1
      simpa [List.getElem?_take, List.getElem?_drop] using this
    · rw [List.getElem?_eq_getElem (by omega), e2])
  have e1 : cs = cB X := by
    apply List.ext_getElem?
    intro i
    by_cases h : i < 32
    · rw [(hp i h).1]; simp [cB, List.getD, show i < X.length by omega]
    · rw [List.getElem?_eq_none (by omega), List.getElem?_eq_none (by rw [cB_len]; omega)]
  have e2 : xs = X.map fun x => (.lit (.int .u8 x), []) := by
    apply List.ext_getElem?
    intro i
    by_cases h : i < 32
    · rw [(hp i h).2.2]; simp [List.getD, show i < X.length by omega]
    · rw [List.getElem?_eq_none (by omega), List.getElem?_eq_none (by simp; omega)]
  refine ⟨X, hX, fun z hz => ?_, e1, ?_⟩
  · obtain ⟨i, hi', rfl⟩ := List.getElem_of_mem hz
    have := (hp i (by omega)).2.1
    rwa [List.getD, List.getElem?_eq_getElem hi'] at this
  · rw [e2] at hx
    rw [hx, dat, flat_nil]
    simp [Function.comp_def]
theorem open_ha {r : Reach} {b0 : Nat} {v : Value} {d : DataW H} {p : List MemPlace} (hv : Value.okWide Try.prog w r b0 26 v) (h : DataW.Trod enc Try.prog w base spare held 26 v d p) :
    ∃ X : List Int, X.length = 32 ∧ Wfb X ∧ v = .agg (cB X).toArray ∧ d = dat X ∧ p = [] := by
  obtain ⟨cs, rfl, hsz⟩ : ∃ cs : Array Value, v = .agg cs ∧ cs.size = 32 := by
    simp only [Value.okWide, Try.underlying26] at hv
    obtain ⟨cs, h1, h2, _⟩ := hv
    exact ⟨cs, h1, h2.trans cells_haN⟩
  obtain ⟨fuel, hf⟩ := h
  obtain ⟨X, h1, h2, h3, h4⟩ := cells_ha hf
  simp only [Prod.mk.injEq] at h4
  refine ⟨X, h1, h2, ?_, h4.1, h4.2⟩
  have e : cs = (cB X).toArray := by
    apply Array.toList_inj.1
    simpa [Value.cells] using h3
  rw [e]
set_option maxRecDepth 100000 in
theorem shut_ha {X : List Int} (hl : X.length = 32) (hw : Wfb X) : DataW.Trod enc Try.prog w base spare held 26 (.agg (cB X).toArray) (dat X) [] := by
  refine ⟨2, ?_⟩
  have h : (List.range 32).mapM (fun i => DataW.trod enc Try.prog w base spare held 1 5 (((cB X).drop (i * 1)).take 1)) = some ((List.range 32).map fun i => (.lit (.int .u8 (X.getD i 0)), [])) := by
    apply mapM_all
    intro i hi
    have hi' : i < 32 := List.mem_range.1 hi
    have e : ((cB X).drop (i * 1)).take 1 = [.int .u8 (X.getD i 0)] := by
      rw [Nat.mul_one]
      apply List.ext_getElem?
      intro j
      cases j with
      | zero => simp [List.getElem?_drop, cB, List.getD, show i < X.length by omega]
      | succ j => simp [List.getElem?_take]
    have wf : (Lit.int .u8 (X.getD i 0)).wf = true := hw _ (by rw [List.getD, List.getElem?_eq_getElem (by omega)]; exact List.getElem_mem (by omega))
    have wf' : (Lit.int .u8 (X[i]?.getD 0)).wf = true := wf
    rw [e]
    simp [DataW.trod, Try.underlying5, wf']
  have e : (List.range 32).map (fun i => (DataW.lit (.int .u8 (X.getD i 0)) : DataW H)) = X.map fun x => .lit (.int .u8 x) := by
    apply List.ext_getElem?
    intro i
    by_cases h : i < 32
    · simp [h, List.getD, show i < X.length by omega]
    · rw [List.getElem?_eq_none (by simp; omega), List.getElem?_eq_none (by simp; omega)]
  unfold DataW.trod
  simp only [Value.cells, Try.underlying26, cells_haN, cells5]
  rw [if_pos (by simp [cB_len, hl]), show (1 : Nat) = 1 from rfl]
  rw [h]
  rw [Option.map_some, flat_nil, List.map_map, dat, ← e]
  rfl
end
section
variable {H : Type} {enc : TypeId × Value → H} {W : World}
theorem cells_keys {fuel : Nat} {cs : List Value} {x : DataW H × List MemPlace} (hf : DataW.trod enc Try.prog W 0 (fun _ => true) true fuel 34 cs = some x) :
    ∃ (v : Value) (K : List (List Int)), cs = [v] ∧ Ky W v K ∧ W32 K ∧ ((x.1.weights Try.prog 34).all (· ≤ reachBytes) = true → K.length ≤ 5000000000000) := by
  rcases open_slice Try.underlying34 hf with ⟨rfl, rfl⟩ | ⟨a, len, cap, m, n, D, Pl, rfl, _, hl, hm, hM, rfl, hr⟩
  · exact ⟨_, [], rfl, ⟨none, 0, 0, 0, rfl, Nat.le_refl _, .inl rfl, fun j v hv => by simp [kyF] at hv⟩, fun i hi => absurd hi (Nat.not_lt_zero _), fun _ => by simp⟩
  · simp only [if_true] at hM
    subst hM
    have bl : ((DataW.slice (H := H) ((List.range len).map D) ((List.range (m - len)).map fun j => D (len + j))).weights Try.prog 34).all (· ≤ reachBytes) = true → len ≤ 5000000000000 := fun hw => by
      rw [DataW.weights, Try.underlying34] at hw
      simp only [List.all_cons, Bool.and_eq_true, decide_eq_true_eq, bytesH] at hw
      have h1 := hw.1
      rw [List.length_map, List.length_range, List.length_map, List.length_range, reach_eq] at h1
      omega
    rw [cells_haN] at hr
    obtain ⟨ab, ao, spot⟩ := a
    have each : ∀ i, i < len → ∃ X : List Int, X.length = 32 ∧ ∀ j u, (cB X)[j]? = some u → W.cell? (((⟨ab, ao, spot⟩ : Addr).add (i * 32)).add j) = some u := fun i hi => by
      obtain ⟨cs', h1, h2⟩ := hr i (by omega)
      obtain ⟨X, hX, _, rfl, _⟩ := cells_ha h2
      refine ⟨X, hX, fun j u hu => ?_⟩
      have hj : j < 32 := by
        have := (List.getElem?_eq_some_iff.1 hu).1
        rwa [cB_len, hX] at this
      unfold World.cells? at h1
      split at h1
      · have := mapM_some_get h1 j j (by simp [hj])
        rw [this, hu]
      · cases h1
    by_cases h0 : len = 0
    · subst h0
      exact ⟨_, [], rfl, ⟨some ⟨ab, ao, spot⟩, 0, 0, m, rfl, by simp, .inl rfl, fun j v hv => by simp [kyF] at hv⟩, fun i hi => absurd hi (Nat.not_lt_zero _), fun _ => by simp⟩
    · have hspot : spot = .none := by
        obtain ⟨X, hX, hc⟩ := each 0 (by omega)
        have h1 := hc 0 (.int .u8 (X.getD 0 0)) (by simp [cB, List.getD, show 0 < X.length by omega])
        simpa [Addr.add] using World.cell?_spot h1
      subst hspot
      obtain ⟨K, hl2, hp⟩ := list_of (p := fun i (X : List Int) => X.length = 32 ∧ W.rangeAt ab (ao + i * 32) (cB X)) [] len (fun i hi => by
        obtain ⟨X, hX, hc⟩ := each i hi
        refine ⟨X, hX, fun j u hu => ?_⟩
        have := hc j u hu
        rw [Addr.add_lit, Addr.add_lit] at this
        exact this)
      have hW : W32 K := fun i hi => (hp i (by omega)).1
      refine ⟨_, K, rfl, ⟨some ⟨ab, ao, .none⟩, ab, ao, m, by rw [hl2], by omega, .inr rfl, fun j v hv => ?_⟩, hW, fun hw => by rw [hl2]; exact bl hw⟩
      have hj : j < K.length * 32 := by rw [← kyF_len K hW]; exact (List.getElem?_eq_some_iff.1 hv).1
      obtain ⟨i, k, rfl, hk⟩ : ∃ i k, j = i * 32 + k ∧ k < 32 := ⟨j / 32, j % 32, by omega, by omega⟩
      have hi : i < K.length := by omega
      rw [kyF_at K i k hW hi hk] at hv
      have := (hp i (by omega)).2 k v hv
      rw [Nat.add_assoc] at this
      exact this
theorem cells_en {fuel : Nat} {cs : List Value} {x : DataW H × List MemPlace} (hf : DataW.trod enc Try.prog W 0 (fun _ => true) true fuel 36 cs = some x) :
    ∃ (e : EE) (v : Value), cs = cB e.A ++ [v] ∧ e.A.length = 20 ∧ Ky W v e.K ∧ W32 e.K ∧ ((x.1.weights Try.prog 36).all (· ≤ reachBytes) = true → e.K.length ≤ 5000000000000) := by
  obtain ⟨xs, m, rfl, hx, hl, hn, hi⟩ := DataW.trod_struct Try.underlying36 hf
  rw [cellsE] at hl
  match xs, hn with
  | [y0, y1], _ =>
    have a : DataW.trod enc Try.prog W 0 (fun _ => true) true m 24 (List.take (Try.prog.cellsOf 24) (List.drop 0 cs)) = some y0 := hi 0 _ rfl
    have c : DataW.trod enc Try.prog W 0 (fun _ => true) true m 34 (List.take (Try.prog.cellsOf 34) (List.drop 20 cs)) = some y1 := hi 1 _ rfl
    rw [cells_adN] at a
    rw [cellsK] at c
    obtain ⟨X, hX, _, e1, rfl⟩ := cells_ad a
    obtain ⟨v, K, e2, hK, hW, hb⟩ := cells_keys c
    refine ⟨⟨X, K⟩, v, ?_, hX, hK, hW, fun hw => hb ?_⟩
    · show cs = cB X ++ [v]
      rw [← e1, ← e2, List.drop_zero]
      have h3 : List.take 1 (List.drop 20 cs) = List.drop 20 cs := List.take_of_length_le (by rw [List.length_drop]; omega)
      rw [h3, List.take_append_drop]
    · rw [hx] at hw
      rw [DataW.weights, Try.underlying36] at hw
      simp only [List.map_cons, List.map_nil, DataW.weightsEach, List.all_append, Bool.and_eq_true] at hw
      exact hw.2.1
theorem weigh_all {D : Nat → DataW H} : ∀ l : List Nat, (DataW.weightsAll Try.prog 36 (l.map D)).all (· ≤ reachBytes) = true → ∀ r ∈ l, ((D r).weights Try.prog 36).all (· ≤ reachBytes) = true
  | [], _, r, hr => absurd hr List.not_mem_nil
  | q :: l, h, r, hr => by
    rw [List.map_cons, DataW.weightsAll, List.all_append, Bool.and_eq_true] at h
    rcases List.mem_cons.1 hr with e | e
    · rw [e]; exact h.1
    · exact weigh_all l h.2 r e
set_option maxRecDepth 100000 in
theorem open_ens {base : Nat} {v : Value} {d : DataW H} {p : List MemPlace} (hval : Value.okWide Try.prog W .any base 22 v) (h : DataW.Trod enc Try.prog W 0 (fun _ => true) true 22 v d p) (hwt : (d.weights Try.prog 22).all (· ≤ reachBytes) = true) :
    ∃ (a : Option Addr) (b o c : Nat) (L : List EE) (V : Nat → Value), v = .slice a L.length c ∧ AzE a b o L ∧ Es W b o L V ∧ WfE L ∧ KyL L ∧ L.length ≤ 3000000000000 := by
  obtain ⟨a1, len, cap, rfl⟩ := okWide_slice Try.underlying22 hval
  obtain ⟨fuel, hf⟩ := h
  rcases open_slice Try.underlying22 hf with ⟨hcs, hx⟩ | ⟨a, len', cap', m, n, D, Pl, hcs, _, hl, hm, hM, hx, hr⟩
  · simp [Value.cells] at hcs
    obtain ⟨rfl, rfl, rfl⟩ := hcs
    exact ⟨.none, 0, 0, 0, [], fun _ => .bool true, rfl, .inl rfl, (fun i hi => absurd hi (Nat.not_lt_zero _)), (fun i hi => absurd hi (Nat.not_lt_zero _)), (fun i hi => absurd hi (Nat.not_lt_zero _)), by simp⟩
  · simp [Value.cells] at hcs
    obtain ⟨rfl, rfl, rfl⟩ := hcs
    simp only [if_true] at hM
    subst hM
    simp only [Prod.mk.injEq] at hx
    obtain ⟨rfl, rfl⟩ := hx
    rw [DataW.weights, Try.underlying22] at hwt
    simp only [List.all_cons, Bool.and_eq_true, decide_eq_true_eq, bytesE, List.all_append] at hwt
    obtain ⟨h1, h2, _⟩ := hwt
    rw [List.length_map, List.length_range, List.length_map, List.length_range, reach_eq] at h1
    have bl : len ≤ 3000000000000 := by omega
    rw [cellsE] at hr
    obtain ⟨ab, ao, spot⟩ := a
    have each : ∀ i, i < len → ∃ q : EE × Value, q.1.A.length = 20 ∧ Ky W q.2 q.1.K ∧ W32 q.1.K ∧ q.1.K.length ≤ 5000000000000 ∧ ∀ j u, (cB q.1.A ++ [q.2])[j]? = some u → W.cell? (((⟨ab, ao, spot⟩ : Addr).add (i * 21)).add j) = some u := fun i hi => by
      obtain ⟨cs', k1, k2⟩ := hr i (by omega)
      obtain ⟨e, v, rfl, hA, hK, hW, hb⟩ := cells_en k2
      refine ⟨(e, v), hA, hK, hW, hb (weigh_all _ h2 i (List.mem_range.2 hi)), fun j u hu => ?_⟩
      have hj : j < 21 := by
        have := (List.getElem?_eq_some_iff.1 hu).1
        rw [List.length_append, cB_len, hA] at this
        exact this
      unfold World.cells? at k1
      split at k1
      · have := mapM_some_get k1 j j (by simp [hj])
        rw [this, hu]
      · cases k1
    by_cases h0 : len = 0
    · subst h0
      exact ⟨some ⟨ab, ao, spot⟩, 0, 0, m, [], fun _ => .bool true, rfl, .inl rfl, (fun i hi => absurd hi (Nat.not_lt_zero _)), (fun i hi => absurd hi (Nat.not_lt_zero _)), (fun i hi => absurd hi (Nat.not_lt_zero _)), by simp⟩
    · have hspot : spot = .none := by
        obtain ⟨q, hA, _, _, _, hc⟩ := each 0 (by omega)
        have k1 := hc 0 (.int .u8 (q.1.A.getD 0 0)) (by rw [List.getElem?_append_left (by rw [cB_len, hA]; omega)]; simp [cB, List.getD, show 0 < q.1.A.length by omega])
        simpa [Addr.add] using World.cell?_spot k1
      subst hspot
      obtain ⟨QL, hl2, hp⟩ := list_of (p := fun i (q : EE × Value) => q.1.A.length = 20 ∧ Ky W q.2 q.1.K ∧ W32 q.1.K ∧ q.1.K.length ≤ 5000000000000 ∧ W.rangeAt ab (ao + i * 21) (cB q.1.A ++ [q.2])) (zE, .bool true) len (fun i hi => by
        obtain ⟨q, q1, q2, q3, q4, hc⟩ := each i hi
        refine ⟨q, q1, q2, q3, q4, fun j u hu => ?_⟩
        have := hc j u hu
        rw [Addr.add_lit, Addr.add_lit] at this
        exact this)
      have eL : ∀ i, (QL.map (·.1)).getD i zE = (QL.getD i (zE, .bool true)).1 := fun i => by
        rw [List.getD, List.getD, List.getElem?_map]
        cases QL[i]? <;> rfl
      have lL : (QL.map (·.1)).length = len := by rw [List.length_map, hl2]
      refine ⟨some ⟨ab, ao, .none⟩, ab, ao, m, QL.map (·.1), fun i => (QL.getD i (zE, .bool true)).2, by rw [lL], .inr rfl, fun i hi => ?_, fun i hi => ?_, fun i hi => ?_, by rw [lL]; exact bl⟩
      · rw [eL]; have q := hp i (by omega); exact ⟨q.2.2.2.2, q.2.1⟩
      · rw [eL]; have q := hp i (by omega); exact ⟨q.1, q.2.2.1⟩
      · rw [eL]; exact (hp i (by omega)).2.2.2.1
end
end Go.Proofs.Ytongiohdomacoaa.ac
