import Derived.Test.YtncpjgpioajbeaaGreatDoorSHsr
import Derived.Laws.IdiomCopy
/- What a text makes of a hasher, piece by piece. -/
namespace Go.Proofs.YtncpjgpioajbeaaGreatDoor.S
open Go.RowKit Go.Sort

def restX (X : List (BitVec 8)) : List (BitVec 8) := X.drop (64 * (X.length / 64))
theorem restX_len (X : List (BitVec 8)) : (restX X).length = X.length % 64 := by rw [restX, List.length_drop]; omega
def bkX (X : List (BitVec 8)) : List (BitVec 8) := restX X ++ List.replicate (64 - X.length % 64) 0
theorem bkX_len (X : List (BitVec 8)) : (bkX X).length = 64 := by rw [bkX, List.length_append, restX_len, List.length_replicate]; omega
def stX (X : List (BitVec 8)) : List (BitVec 32) := if X.length < 64 then List.replicate 8 0 else stAt X (X.length / 64)
theorem stX_len (X : List (BitVec 8)) : (stX X).length = 8 := by
  unfold stX
  split
  · simp
  · exact stAt_len _ _
/-- Bytes laid over a block, from p on. -/
def over (K Z : List (BitVec 8)) (p : Nat) : List (BitVec 8) := K.take p ++ (Z ++ K.drop (p + Z.length))
theorem over_len {K Z : List (BitVec 8)} {p : Nat} (h : p + Z.length ≤ K.length) : (over K Z p).length = K.length := by rw [over, List.length_append, List.length_append, List.length_take, List.length_drop]; omega
theorem over_bk {X Z : List (BitVec 8)} : over (bkX X) Z (X.length % 64) = restX X ++ (Z ++ List.replicate (64 - X.length % 64 - Z.length) 0) := by
  rw [over, bkX, List.take_left' (restX_len X), ← List.drop_drop, List.drop_left' (restX_len X), List.drop_replicate]
theorem piece_in {X Z : List (BitVec 8)} (h : X.length % 64 + Z.length < 64) : stX (X ++ Z) = stX X ∧ bkX (X ++ Z) = over (bkX X) Z (X.length % 64) := by
  have e : (X ++ Z).length = X.length + Z.length := List.length_append
  have q : (X.length + Z.length) / 64 = X.length / 64 := by omega
  have m : (X.length + Z.length) % 64 = X.length % 64 + Z.length := by omega
  refine ⟨?_, ?_⟩
  · unfold stX
    rw [e, q, stAt_app _ (by omega)]
    by_cases h6 : X.length < 64
    · rw [if_pos h6, if_pos (by omega)]
    · rw [if_neg h6, if_neg (by omega)]
  · rw [over_bk, bkX, restX, e, q, m, List.drop_append_of_le_length (by omega), restX, List.append_assoc, Nat.sub_sub]
theorem piece_full {X Z : List (BitVec 8)} (h : X.length % 64 + Z.length = 64) : compL (if X.length + Z.length = 64 then hN else stX X) (over (bkX X) Z (X.length % 64)) = stX (X ++ Z) ∧ bkX (X ++ Z) = List.replicate 64 0 := by
  have e : (X ++ Z).length = X.length + Z.length := List.length_append
  have q : (X.length + Z.length) / 64 = X.length / 64 + 1 := by omega
  have m : (X.length + Z.length) % 64 = 0 := by omega
  refine ⟨?_, ?_⟩
  · have hb : over (bkX X) Z (X.length % 64) = blk (X ++ Z) (X.length / 64) := by
      rw [over_bk, blk, List.drop_append_of_le_length (by omega), show 64 - X.length % 64 - Z.length = 0 by omega, List.replicate_zero, List.append_nil, ← restX]
      exact (List.take_of_length_le (by rw [List.length_append, restX_len]; omega)).symm
    have hs : (if X.length + Z.length = 64 then hN else stX X) = stAt X (X.length / 64) := by
      by_cases h6 : X.length + Z.length = 64
      · rw [if_pos h6, show X.length / 64 = 0 by omega]; rfl
      · rw [if_neg h6, stX, if_neg (by omega)]
    rw [hb, hs, stX, e, if_neg (by omega), q, stAt, stAt_app _ (by omega)]
  · rw [bkX, restX, e, q, m, List.drop_eq_nil_of_le (by rw [e]; omega)]
    rfl
/-- Block b holds the hasher that has taken this text in. -/
def Tx (W : World) (b : Nat) (X : List (BitVec 8)) : Prop := Hs W b (stX X) (bkX X) X.length
theorem Hs.part {W : World} {b : Nat} {S : List (BitVec 32)} {K Z : List (BitVec 8)} {T p : Nat} (h : Hs W b S K T) (hp : p + Z.length ≤ 64) : Hs (W.setCells b (8 + p) (byts Z)) b S (over K Z p) T := by
  have hl : (over K Z p).length = 64 := by rw [over_len (by rw [h.kl]; exact hp), h.kl]
  refine ⟨h.sl, hl, fun j hj => ?_, fun j hj => ?_, ?_, h.ls.setCells _ _ _⟩
  · rw [World.cell?_setCells_out _ _ _ _ _ (fun _ _ => .inl (by have := h.sl; show 0 + j < 8 + p; omega))]; exact h.st j hj
  · have tp : (K.take p).length = p := by rw [List.length_take, h.kl]; omega
    have hc := h.bk j (by rw [h.kl]; omega)
    by_cases h1 : j < p
    · rw [World.cell?_setCells_out _ _ _ _ _ (fun _ _ => .inl (by show 8 + j < 8 + p; omega)), hc]
      rw [over, List.getD, List.getD, List.getElem?_append_left (by omega), List.getElem?_take, if_pos h1]
    · by_cases h2 : j < p + Z.length
      · have th : W.there b (8 + p) (byts Z).length := fun i hi => by
          rw [byts_len] at hi
          have := h.thereK (p + i) (by omega)
          rwa [← Nat.add_assoc] at this
        have k := World.rangeAt_setCells_same W b (8 + p) (byts Z) th (j - p) (.int .u8 (Y (Z.getD (j - p) 0))) (by simp [byts, List.getD, show j - p < Z.length by omega])
        rw [show 8 + p + (j - p) = 8 + j by omega] at k
        rw [k, over, List.getD, List.getD, List.getElem?_append_right (by omega), tp, List.getElem?_append_left (by omega)]
      · rw [World.cell?_setCells_out _ _ _ _ _ (fun _ _ => .inr (by rw [byts_len]; show 8 + p + Z.length ≤ 8 + j; omega)), hc]
        rw [over, List.getD, List.getD, List.getElem?_append_right (by omega), tp, List.getElem?_append_right (by omega), List.getElem?_drop, show p + Z.length + (j - p - Z.length) = j by omega]
  · rw [World.cell?_setCells_out _ _ _ _ _ (fun _ _ => .inr (by rw [byts_len]; show 8 + p + Z.length ≤ 72; omega))]; exact h.tk

/-- A copy into a hasher's block. -/
theorem wpList_copy_hs {P : Program} {w : World} {ops : Array Oper} {rest : List Oper} {a : Act} {Q : Exit → Act → World → Prop} {nd : Nat} {tt : TypeId} {pos : String} {after : Array Edge} {d s : Operand} {dT sT elem : TypeId}
    {b p n r dCap m sCap bs os T : Nat} {S : List (BitVec 32)} {K Z X : List (BitVec 8)} (hu : P.underlying dT = some (.slice elem)) (hsz : (P.info? elem).map (·.size) = some 1) (hH : Hs w b S K T) (hX : Byo w bs os X) (hZ : Z = X.take n) (hn : n = min m r) (hm : m = X.length) (hr : p + r = 64)
    (hd : a.eval d = .slice (some ⟨b, 8 + p, none⟩) r dCap) (hs : a.eval s = .slice (some ⟨bs, os, none⟩) m sCap)
    (h : ∀ w', Hs w' b S (over K Z p) T → Off b w w' → wpList P ops Q rest (a.put (some nd) (goInt n)) w') : wpList P ops Q (⟨some nd, .call { callee := .builtin .copy, args := #[d, s], argTypes := #[dT, sT] }, tt, pos, after, none⟩ :: rest) a w := by
  have lZ : Z.length = n := by rw [hZ, List.length_take]; omega
  refine wpList_plain rfl fun K' hK => ?_
  have hrun := run_copy_cells (P := P) w dT sT tt elem b (8 + p) r dCap ⟨bs, os, none⟩ m sCap (byts Z) hu hsz (by rw [byts_len, lZ, hn]) (fun j v hv => by
      unfold byts at hv
      rw [List.getElem?_map] at hv
      obtain ⟨x, hx, rfl⟩ := Option.map_eq_some_iff.1 hv
      have hj : j < Z.length := (List.getElem?_eq_some_iff.1 hx).1
      rw [Addr.add_mid, hX j (by omega)]
      rw [hZ, List.getElem?_take, if_pos (by omega)] at hx
      simp [List.getD, hx]) (fun j hj => by
      rw [byts_len] at hj
      rw [Nat.add_assoc, hH.bk (p + j) (by rw [hH.kl]; omega)]
      rfl) (fun j hj => by
      rw [byts_len] at hj
      rw [Nat.add_assoc]
      exact hH.ls (8 + (p + j)) (by omega)) (fun v hv => by obtain ⟨x, _, rfl⟩ := List.mem_map.1 hv; rfl)
  rw [byts_len, lZ] at hrun
  unfold Oper.wp
  simp [execOp, resolve, invoke, builtin, hd, hs, hrun, Result.andThen]
  exact hK _ _ (h _ (hH.part (by omega)) ((Off.refl _ _).setCells _))

end Go.Proofs.YtncpjgpioajbeaaGreatDoor.S
