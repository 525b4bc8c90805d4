import Derived.Test.YtidchaaahgnabaaDoorHxQ
import Derived.Test.YtidchaaahgnabaaDoorHxH
import Derived.Test.YtidchaaahgnabaaDoorHxP
/- Layer 8: the document's Small. -/
namespace Go.Proofs.YtidchaaahgnabaaDoor
open Go.RowKit Go.Sort
theorem OwnB.text {B : Nat} {W : World} {v : Value} {T : List UInt8} (h : OwnB B W v (T.map fun u => (u.toNat : Int))) (h0 : 0 < T.length) : (convert 30 9 v).run Tryd.prog W = .ok (.string ⟨T.toArray⟩) W := by
  have hl : (T.map fun u => (u.toNat : Int)).length = T.length := List.length_map _
  rcases h.2 with ⟨rfl, h1⟩ | ⟨g, cap, cur, rfl, _⟩
  · omega
  · have r := run_convert_bytes_back (P := Tryd.prog) W 30 9 5 ⟨g, 0, none⟩ cap T Tryd.underlying30 Tryd.underlying5 Tryd.underlying9 (fun j hj => by
      rw [Addr.add_mid, Nat.zero_add, OwnB.cell h rfl (by rw [hl]; exact hj)]
      simp [List.getD, hj])
    rw [hl]
    exact r
end Go.Proofs.YtidchaaahgnabaaDoor

/- Layer 8: the law HexaCase. -/
namespace Go.Proofs.YtidchaaahgnabaaDoor
open Go.RowKit Go.Sort
theorem paX_right {A : List Int} (hA : A.length = 20) (hb : ∀ i, 0 ≤ A.getD i 0 ∧ A.getD i 0 < 256) : paX ⟨(ckS A).toArray⟩ = A ∧ paE ⟨(ckS A).toArray⟩ = 0 := by
  obtain ⟨h1, h2, h3⟩ := (ckS_rds hA hb).ok hA hb
  have e : (⟨(ckS A).toArray⟩ : ByteArray) = ⟨(ckS (pk (tl ⟨(ckS A).toArray⟩) 20)).toArray⟩ := by rw [h3]
  refine ⟨?_, ?_⟩
  · unfold paX; rw [if_pos ⟨h1, h2, .inr e⟩, h3]
  · unfold paE; rw [if_pos ⟨h1, h2⟩, if_pos (.inr e)]
theorem rangeBoxH {W : World} {M : List Value} {t : TypeId} : (W.alloc (.cells M.toArray t)).rangeAt W.heap.size 0 M := fun j v hv => by
  rw [Nat.zero_add, World.cell?_alloc_mark]
  simpa using hv
theorem range_keepH {W W' : World} {b : Nat} {M : List Value} (h : W.rangeAt b 0 M) (hb : Below W.heap.size W W') : W'.rangeAt b 0 M := fun j v hv => by
  have c := h j v hv
  rw [hb.cell (World.block_lt_of_cell? W _ c)]; exact c
end Go.Proofs.YtidchaaahgnabaaDoor

/- Layer 8: ParseHash of any text. -/
namespace Go.Proofs.YtidchaaahgnabaaDoor
open Go.RowKit Go.Sort
/-- What ParseHash answers: the bytes, the error. -/
noncomputable def phX (s : ByteArray) : List Int := open Classical in if okP s ∧ (tl s).size = 64 then pk (tl s) 32 else List.replicate 32 0
noncomputable def phE (s : ByteArray) : Int := open Classical in if okP s ∧ (tl s).size = 64 then 0 else 80
theorem ph_any {s : ByteArray} (hs : s.size < 140737488355328) (w : World) : Calls Tryd.prog 25 #[.string s] w fun e w' => e = .returned (.tuple #[.agg ((phX s).map (Value.int .u8)).toArray, .int .i64 (phE s)]) ∧ Below w.heap.size w w' := by
  by_cases h : okP s ∧ (tl s).size = 64
  · have e1 : phX s = pk (tl s) 32 := by unfold phX; rw [if_pos h]
    have e2 : phE s = 0 := by unfold phE; rw [if_pos h]
    rw [e1, e2]; exact ph_ok hs h.1 h.2 w
  · have e1 : phX s = List.replicate 32 0 := by unfold phX; rw [if_neg h]
    have e2 : phE s = 80 := by unfold phE; rw [if_neg h]
    rw [e1, e2]; exact ph_no hs h w
end Go.Proofs.YtidchaaahgnabaaDoor
