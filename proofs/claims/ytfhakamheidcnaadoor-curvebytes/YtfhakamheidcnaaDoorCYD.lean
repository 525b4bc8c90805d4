import Derived.Test.YtfhakamheidcnaaDoorCYA
import Derived.Test.YtfhakamheidcnaaDoorCYC
namespace Go.Proofs.YtfhakamheidcnaaDoor
open Go.RowKit Go.Sort

theorem OwnB.of_block {B : Nat} {W W' : World} {v : Value} {X : List Int} (h : OwnB B W v X) (e : ∀ k, v.ownBlock = some k → W'.heap[k]? = W.heap[k]?) : OwnB B W' v X := by
  refine ⟨h.1, ?_⟩
  rcases h.2 with hn | ⟨g, cap, cur, rfl, hb, hc, rest⟩
  · exact .inl hn
  · exact .inr ⟨g, cap, cur, rfl, hb, (e g rfl).trans hc, rest⟩
theorem lnum5_any (v : Int) (w : World) : Calls Tryd.prog 9 #[.int .i64 v] w fun e w' => e = .returned (.int .i64 v) ∧ Below w.heap.size w w' := by
  go_enter Tryd.func9, Tryd.ntmps9
  go_wp2
  simp [bodyPost, results, Tryd.results9, go_sem]
  exact Below.refl _ _
set_option maxRecDepth 100000 in
set_option maxHeartbeats 16000000 in
theorem cbytes_any {x y : Int} {i : Bool} (hx : Num x) (hy : Num y) (w : World) (hm : Mds w) :
    Calls Tryd.prog 3 #[.agg #[.int .u64 (l0 x), .int .u64 (l1 x), .int .u64 (l2 x), .int .u64 (l3 x), .int .u64 (l0 y), .int .u64 (l1 y), .int .u64 (l2 y), .int .u64 (l3 y), .bool i]] w fun e w' => e = .returned (.bool true) ∧ Below w.heap.size w w' := by
  obtain ⟨E, eE⟩ : ∃ E, E = cpE x y i := ⟨_, rfl⟩
  obtain ⟨PL, eP⟩ : ∃ PL, PL = cpL x y i := ⟨_, rfl⟩
  obtain ⟨QL, eQ⟩ : ∃ QL, QL = exL x y i := ⟨_, rfl⟩
  have CP : Hid (∀ W, Below w.heap.size w W → Calls Tryd.prog 4 #[.agg #[.int .u64 (l0 x), .int .u64 (l1 x), .int .u64 (l2 x), .int .u64 (l3 x), .int .u64 (l0 y), .int .u64 (l1 y), .int .u64 (l2 y), .int .u64 (l3 y), .bool i]] W fun e w' => ∃ v, e = .returned (.tuple #[v, .int .i64 E]) ∧ OwnB W.heap.size w' v PL ∧ Below W.heap.size W w') := fun W B => by rw [eE, eP]; exact compress_all hx hy W (hm.keep B)
  have EX : Hid (∀ W, Below w.heap.size w W → Calls Tryd.prog 5 #[.agg #[.int .u64 (l0 x), .int .u64 (l1 x), .int .u64 (l2 x), .int .u64 (l3 x), .int .u64 (l0 y), .int .u64 (l1 y), .int .u64 (l2 y), .int .u64 (l3 y), .bool i]] W fun e w' => ∃ v, e = .returned (.tuple #[v, .int .i64 E]) ∧ OwnB W.heap.size w' v QL ∧ Below W.heap.size W w') := fun W B => by rw [eE, eQ]; exact expand_all hx hy W (hm.keep B)
  have RC : Hid (∀ W, Below w.heap.size w W → Calls Tryd.prog 6 #[.agg #[.int .u64 (l0 x), .int .u64 (l1 x), .int .u64 (l2 x), .int .u64 (l3 x), .int .u64 (l0 y), .int .u64 (l1 y), .int .u64 (l2 y), .int .u64 (l3 y), .bool i]] W fun e w' => ∃ v, e = .returned (.tuple #[v, .int .i64 E]) ∧ OwnB W.heap.size w' v PL ∧ Below W.heap.size W w') := fun W B => by rw [eE, eP]; exact rcompress_all hx hy W
  have RX : Hid (∀ W, Below w.heap.size w W → Calls Tryd.prog 7 #[.agg #[.int .u64 (l0 x), .int .u64 (l1 x), .int .u64 (l2 x), .int .u64 (l3 x), .int .u64 (l0 y), .int .u64 (l1 y), .int .u64 (l2 y), .int .u64 (l3 y), .bool i]] W fun e w' => ∃ v, e = .returned (.tuple #[v, .int .i64 E]) ∧ OwnB W.heap.size w' v QL ∧ Below W.heap.size W w') := fun W B => by rw [eE, eQ]; exact rexpand_all hx hy W
  have LP : Hid (PL.length ≤ 65) := by show _ ≤ _; rw [eP]; exact cpL_len x y i
  have LQ : Hid (QL.length ≤ 65) := by show _ ≤ _; rw [eQ]; exact exL_len x y i
  have NU : Hid (∀ (v : Int) (w : World), Calls Tryd.prog 9 #[.int .i64 v] w fun e w' => e = .returned (.int .i64 v) ∧ Below w.heap.size w w') := fun v w => lnum5_any v w
  clear eE eP eQ hx hy hm
  go_enter Tryd.func3, Tryd.ntmps3
  go_wp2_with fail
  refine calls_world (fun W => Below w.heap.size w W ∧ Pnt W w.heap.size x y i) ⟨by repeat (first | with_reducible exact Below.refl _ _ | with_reducible refine Below.alloc ?_ (by first | omega | (simp; done) | (simp; omega)) _), Pnt.new rfl⟩ ?_
  rintro W1 ⟨BB, hP⟩
  have z1 : Hid (w.heap.size ≤ W1.heap.size) := BB.size
  with_reducible refine (CP.out W1 BB).mono ?_
  rintro e w2 ⟨v3, rfl, o3, hb⟩
  replace BB := BB.trans (hb.mono BB.size)
  replace hP := hP.keep hb
  have I3 : Hid (∀ k, v3.ownBlock = some k → W1.heap.size ≤ k ∧ k < w2.heap.size) := fun k hk => o3.lt k hk
  have y3 : Hid (W1.heap.size ≤ w2.heap.size) := hb.size
  clear hb
  have gP := hP.cells
  go_wp2_with fail
  with_reducible refine (EX.out w2 BB).mono ?_
  rintro e w3 ⟨v5, rfl, o5, hb⟩
  replace BB := BB.trans (hb.mono BB.size)
  replace hP := hP.keep hb
  replace o3 := o3.keep hb
  have I5 : Hid (∀ k, v5.ownBlock = some k → w2.heap.size ≤ k ∧ k < w3.heap.size) := fun k hk => o5.lt k hk
  have y5 : Hid (w2.heap.size ≤ w3.heap.size) := hb.size
  clear hb gP
  have gP := hP.cells
  go_wp2_with fail
  with_reducible refine (CP.out w3 BB).mono ?_
  rintro e w4 ⟨v7, rfl, o7, hb⟩
  replace BB := BB.trans (hb.mono BB.size)
  replace hP := hP.keep hb
  replace o3 := o3.keep hb
  replace o5 := o5.keep hb
  have I7 : Hid (∀ k, v7.ownBlock = some k → w3.heap.size ≤ k ∧ k < w4.heap.size) := fun k hk => o7.lt k hk
  have y7 : Hid (w3.heap.size ≤ w4.heap.size) := hb.size
  clear hb gP
  have gP := hP.cells
  go_wp2_with fail
  with_reducible refine (EX.out w4 BB).mono ?_
  rintro e w5 ⟨v9, rfl, o9, hb⟩
  replace BB := BB.trans (hb.mono BB.size)
  replace hP := hP.keep hb
  replace o3 := o3.keep hb
  replace o5 := o5.keep hb
  replace o7 := o7.keep hb
  have I9 : Hid (∀ k, v9.ownBlock = some k → w4.heap.size ≤ k ∧ k < w5.heap.size) := fun k hk => o9.lt k hk
  have y9 : Hid (w4.heap.size ≤ w5.heap.size) := hb.size
  clear hb gP
  have gP := hP.cells
  go_wp2_with fail
  with_reducible refine (RC.out w5 BB).mono ?_
  rintro e w6 ⟨v11, rfl, o11, hb⟩
  replace BB := BB.trans (hb.mono BB.size)
  replace hP := hP.keep hb
  replace o3 := o3.keep hb
  replace o5 := o5.keep hb
  replace o7 := o7.keep hb
  replace o9 := o9.keep hb
  have I11 : Hid (∀ k, v11.ownBlock = some k → w5.heap.size ≤ k ∧ k < w6.heap.size) := fun k hk => o11.lt k hk
  have y11 : Hid (w5.heap.size ≤ w6.heap.size) := hb.size
  clear hb gP
  have gP := hP.cells
  go_wp2_with fail
  with_reducible refine (RX.out w6 BB).mono ?_
  rintro e w7 ⟨v13, rfl, o13, hb⟩
  replace BB := BB.trans (hb.mono BB.size)
  replace hP := hP.keep hb
  replace o3 := o3.keep hb
  replace o5 := o5.keep hb
  replace o7 := o7.keep hb
  replace o9 := o9.keep hb
  replace o11 := o11.keep hb
  have I13 : Hid (∀ k, v13.ownBlock = some k → w6.heap.size ≤ k ∧ k < w7.heap.size) := fun k hk => o13.lt k hk
  have y13 : Hid (w6.heap.size ≤ w7.heap.size) := hb.size
  clear hb gP
  clear hP
  replace o3 := o3.base (B' := w.heap.size) (by have := z1.out; have := y3.out; have := y5.out; have := y7.out; have := y9.out; have := y11.out; have := y13.out; omega)
  replace o5 := o5.base (B' := w.heap.size) (by have := z1.out; have := y3.out; have := y5.out; have := y7.out; have := y9.out; have := y11.out; have := y13.out; omega)
  replace o7 := o7.base (B' := w.heap.size) (by have := z1.out; have := y3.out; have := y5.out; have := y7.out; have := y9.out; have := y11.out; have := y13.out; omega)
  replace o9 := o9.base (B' := w.heap.size) (by have := z1.out; have := y3.out; have := y5.out; have := y7.out; have := y9.out; have := y11.out; have := y13.out; omega)
  replace o11 := o11.base (B' := w.heap.size) (by have := z1.out; have := y3.out; have := y5.out; have := y7.out; have := y9.out; have := y11.out; have := y13.out; omega)
  replace o13 := o13.base (B' := w.heap.size) (by have := z1.out; have := y3.out; have := y5.out; have := y7.out; have := y9.out; have := y11.out; have := y13.out; omega)
  go_wp2_with fail
  with_reducible refine (same5_yes (by have := LP.out; omega) w7 o3.rd o11.rd).mono ?_
  rintro e w8 ⟨rfl, hb⟩
  replace BB := BB.trans (hb.mono BB.size)
  replace o3 := o3.keep hb
  replace o5 := o5.keep hb
  replace o7 := o7.keep hb
  replace o9 := o9.keep hb
  replace o11 := o11.keep hb
  replace o13 := o13.keep hb
  clear hb
  go_wp2_with fail
  with_reducible refine (NU.out _ w8).mono ?_
  rintro e w9 ⟨rfl, hb⟩
  replace BB := BB.trans (hb.mono BB.size)
  replace o3 := o3.keep hb
  replace o5 := o5.keep hb
  replace o7 := o7.keep hb
  replace o9 := o9.keep hb
  replace o11 := o11.keep hb
  replace o13 := o13.keep hb
  clear hb
  go_wp2_with fail
  with_reducible refine (same5_yes (by have := LQ.out; omega) w9 o5.rd o13.rd).mono ?_
  rintro e w10 ⟨rfl, hb⟩
  replace BB := BB.trans (hb.mono BB.size)
  replace o3 := o3.keep hb
  replace o5 := o5.keep hb
  replace o7 := o7.keep hb
  replace o9 := o9.keep hb
  replace o11 := o11.keep hb
  replace o13 := o13.keep hb
  clear hb
  go_wp2_with fail
  with_reducible refine (NU.out _ w10).mono ?_
  rintro e w11 ⟨rfl, hb⟩
  replace BB := BB.trans (hb.mono BB.size)
  replace o3 := o3.keep hb
  replace o5 := o5.keep hb
  replace o7 := o7.keep hb
  replace o9 := o9.keep hb
  replace o11 := o11.keep hb
  replace o13 := o13.keep hb
  clear hb
  go_wp2_with fail
  with_reducible refine (same5_yes (by have := LP.out; omega) w11 o7.rd o11.rd).mono ?_
  rintro e w12 ⟨rfl, hb⟩
  replace BB := BB.trans (hb.mono BB.size)
  replace o3 := o3.keep hb
  replace o5 := o5.keep hb
  replace o7 := o7.keep hb
  replace o9 := o9.keep hb
  replace o11 := o11.keep hb
  replace o13 := o13.keep hb
  clear hb
  go_wp2_with fail
  with_reducible refine (same5_yes (by have := LQ.out; omega) w12 o9.rd o13.rd).mono ?_
  rintro e w13 ⟨rfl, hb⟩
  replace BB := BB.trans (hb.mono BB.size)
  replace o3 := o3.keep hb
  replace o5 := o5.keep hb
  replace o7 := o7.keep hb
  replace o9 := o9.keep hb
  replace o11 := o11.keep hb
  replace o13 := o13.keep hb
  clear hb
  clear o11 o13
  go_wp2_with fail
  with_reducible refine (apart5_any (B := w.heap.size) (by have := LP.out; omega) (by have := LP.out; omega) w13 o3 o7 BB.size (fun k h1 h2 => by have q1 := I3.out k h1; have q2 := I7.out k h2; have := z1.out; have := y3.out; have := y5.out; have := y7.out; have := y9.out; omega)).mono ?_
  rintro e w14 ⟨rfl, two, o3', o7'⟩
  replace o5 := o5.of_block (fun k hk => two.block k (o5.lt k hk).2 (fun e => by have q1 := I5.out k hk; have q2 := I3.out k e.symm; have := z1.out; have := y3.out; have := y5.out; have := y7.out; have := y9.out; omega) (fun e => by have q1 := I5.out k hk; have q2 := I7.out k e.symm; have := z1.out; have := y3.out; have := y5.out; have := y7.out; have := y9.out; omega))
  replace o9 := o9.of_block (fun k hk => two.block k (o9.lt k hk).2 (fun e => by have q1 := I9.out k hk; have q2 := I3.out k e.symm; have := z1.out; have := y3.out; have := y5.out; have := y7.out; have := y9.out; omega) (fun e => by have q1 := I9.out k hk; have q2 := I7.out k e.symm; have := z1.out; have := y3.out; have := y5.out; have := y7.out; have := y9.out; omega))
  replace BB := BB.trans (two.below BB.size (fun k hk => (o3.lt k hk).1) (fun k hk => (o7.lt k hk).1))
  clear two o3 o7
  have o3 := o3'
  have o7 := o7'
  clear o3' o7'
  go_wp2_with fail
  with_reducible refine (apart5_any (B := w.heap.size) (by have := LQ.out; omega) (by have := LQ.out; omega) w14 o5 o9 BB.size (fun k h1 h2 => by have q1 := I5.out k h1; have q2 := I9.out k h2; have := z1.out; have := y3.out; have := y5.out; have := y7.out; have := y9.out; omega)).mono ?_
  rintro e w15 ⟨rfl, two, o5', o9'⟩
  replace o3 := o3.of_block (fun k hk => two.block k (o3.lt k hk).2 (fun e => by have q1 := I3.out k hk; have q2 := I5.out k e.symm; have := z1.out; have := y3.out; have := y5.out; have := y7.out; have := y9.out; omega) (fun e => by have q1 := I3.out k hk; have q2 := I9.out k e.symm; have := z1.out; have := y3.out; have := y5.out; have := y7.out; have := y9.out; omega))
  replace o7 := o7.of_block (fun k hk => two.block k (o7.lt k hk).2 (fun e => by have q1 := I7.out k hk; have q2 := I5.out k e.symm; have := z1.out; have := y3.out; have := y5.out; have := y7.out; have := y9.out; omega) (fun e => by have q1 := I7.out k hk; have q2 := I9.out k e.symm; have := z1.out; have := y3.out; have := y5.out; have := y7.out; have := y9.out; omega))
  replace BB := BB.trans (two.below BB.size (fun k hk => (o5.lt k hk).1) (fun k hk => (o9.lt k hk).1))
  clear two o5 o9
  have o5 := o5'
  have o9 := o9'
  clear o5' o9'
  go_wp2_with fail
  with_reducible refine (apart5_any (B := w.heap.size) (by have := (show (List.replicate PL.length (1 : Int)).length ≤ 65 by rw [List.length_replicate]; exact LP.out); omega) (by have := (show (List.replicate QL.length (1 : Int)).length ≤ 65 by rw [List.length_replicate]; exact LQ.out); omega) w15 o3 o5 BB.size (fun k h1 h2 => by have q1 := I3.out k h1; have q2 := I5.out k h2; have := z1.out; have := y3.out; have := y5.out; have := y7.out; have := y9.out; omega)).mono ?_
  rintro e w16 ⟨rfl, two, o3', o5'⟩
  replace BB := BB.trans (two.below BB.size (fun k hk => (o3.lt k hk).1) (fun k hk => (o5.lt k hk).1))
  clear two o3 o5
  have o3 := o3'
  have o5 := o5'
  clear o3' o5'
  clear o3 o5 o7 o9
  go_wp2
  simp [bodyPost, results, Tryd.results3, go_sem]
  exact BB
end Go.Proofs.YtfhakamheidcnaaDoor
