import Derived.Test.YtpgpciaafjodgaaGreatDoorKDigest
namespace Go.Proofs.YtpgpciaafjodgaaGreatDoor
open Go.RowKit Go.Sort

/-- The digest of a text. -/
noncomputable def digV (k : Int) (X : List (BitVec 8)) : Value := .agg (byts (hashL (finL k (absb (List.replicate 25 0) 0 X) X.length))).toArray

set_option maxHeartbeats 4000000 in
theorem sum_any {a : Option Addr} {bp op cp : Nat} {PS : List Part} (hs : (catX PS).length < 1073741824) (hn : PS.length ≤ 1073741824) (hc : PS.length ≤ cp) (ha : PS = [] ∨ a = some ⟨bp, op, none⟩) (w : World) (hP : Prts w bp op PS) (ht : Tab w 2 turnsN) (hm : Lns w 1 marksN) :
    Calls Tryz.prog 45 #[.slice a PS.length cp] w fun e w' => e = .returned (digV 0 (catX PS)) ∧ Below w.heap.size w w' := by
  have HH : Hid (Prts w bp op PS ∧ Tab w 2 turnsN ∧ Lns w 1 marksN) := ⟨hP, ht, hm⟩
  have HC : Hid ((catX PS).length < 1073741824 ∧ PS.length ≤ 1073741824 ∧ PS.length ≤ cp ∧ (PS = [] ∨ a = some ⟨bp, op, none⟩)) := ⟨hs, hn, hc, ha⟩
  clear hP ht hm hs hc ha hn
  go_enter Tryz.func45, Tryz.ntmps45
  go_wp2_with fail
  refine calls_world (fun W => Below w.heap.size w W ∧ Hsh W w.heap.size (List.replicate 32 0)) ⟨(Below.refl _ _).alloc (Nat.le_refl _) _, Hsh.zeros _ rfl⟩ ?_
  rintro W ⟨B, hR⟩
  have PP : Prts W bp op PS := fun i hi => by
    obtain ⟨h1, h2, h3, h4⟩ := HH.out.1 i hi
    exact ⟨by rw [B.cell (p := ⟨bp, op + i, none⟩) (World.block_lt_of_cell? w _ h1)]; exact h1, h2, h3, fun j hj => by rw [B.cell (World.block_lt_of_cell? w _ (h4 j hj))]; exact h4 j hj⟩
  refine (digest_any (k := 0) HC.out.1 HC.out.2.1 HC.out.2.2.1 HC.out.2.2.2 _ PP (HH.out.2.1.keep B) (HH.out.2.2.keep B)).mono ?_
  rintro e w6 ⟨rfl, hb⟩
  have H6 : Hid (Below w.heap.size w w6 ∧ Hsh w6 w.heap.size (List.replicate 32 0)) := ⟨B.trans (hb.mono B.size), hR.keep hb⟩
  clear hb B hR PP
  have oc := one_byts (hashL (finL 0 (absb (List.replicate 25 0) 0 (catX PS)) (catX PS).length))
  have lN : (byts (hashL (finL 0 (absb (List.replicate 25 0) 0 (catX PS)) (catX PS).length))).length = 32 := by rw [byts_len, hashL_len]
  generalize hN : byts (hashL (finL 0 (absb (List.replicate 25 0) 0 (catX PS)) (catX PS).length)) = N at *
  have EN : Hid (byts (hashL (finL 0 (absb (List.replicate 25 0) 0 (catX PS)) (catX PS).length)) = N) := hN
  clear hN
  have sz : (N.toArray).size = 32 := by simp [lN]
  have tr : w6.there w.heap.size 0 (N.toArray).size := by rw [sz]; exact H6.out.2.there
  have HN : Hid (N.length = 32) := lN
  clear lN
  go_wp2_with (refine wpList_store_mid rfl 26 _ _ rfl w.heap.size 0 _ rfl rfl tr (by rw [sz]; kernel_rfl) oc ?_)
  have ld := run_loadVar_mid (P := Tryz.prog) (w6.setCells w.heap.size 0 N) w.heap.size 0 26 N _ (World.rangeAt_setCells_same _ _ _ _ (by simpa using tr)) Tryz.underlying26 rfl (by rw [HN.out]; kernel_rfl)
  refine bodyPost_ret (v := .agg N.toArray) ?_ rfl ⟨by rw [digV, EN.out], below_setCells (Nat.le_refl _) N 0 w6 H6.out.1⟩
  simp [results, Tryz.results45, Act.put, asAddr, ld]

end Go.Proofs.YtpgpciaafjodgaaGreatDoor
