import Derived.Test.YtncpjgpioajbeaaDoorNzA
import Derived.Test.YtncpjgpioajbeaaDoorFLaid
import Derived.Test.YtncpjgpioajbeaaDoorSLaid
/- Nonces: the tables as they are laid. -/
namespace Go.Proofs.YtncpjgpioajbeaaDoor
open Go.ChangeShapes Go.WideShapes Go.ChangeAt Go.RowKit

/-- The world of the witness. -/
noncomputable def laidWorldZ (os : Os) : World := { World.holding Tryd.prog os ⟨#[], #[], []⟩ with heap := ((((World.holding Tryd.prog os ⟨#[], #[], []⟩).heap.modify 1 (lay #[.int .u32 1779033703, .int .u32 3144134277, .int .u32 1013904242, .int .u32 2773480762, .int .u32 1359893119, .int .u32 2600822924, .int .u32 528734635, .int .u32 1541459225])).modify 2 (lay #[.int .u32 1116352408, .int .u32 1899447441, .int .u32 3049323471, .int .u32 3921009573, .int .u32 961987163, .int .u32 1508970993, .int .u32 2453635748, .int .u32 2870763221, .int .u32 3624381080, .int .u32 310598401, .int .u32 607225278, .int .u32 1426881987, .int .u32 1925078388, .int .u32 2162078206, .int .u32 2614888103, .int .u32 3248222580, .int .u32 3835390401, .int .u32 4022224774, .int .u32 264347078, .int .u32 604807628, .int .u32 770255983, .int .u32 1249150122, .int .u32 1555081692, .int .u32 1996064986, .int .u32 2554220882, .int .u32 2821834349, .int .u32 2952996808, .int .u32 3210313671, .int .u32 3336571891, .int .u32 3584528711, .int .u32 113926993, .int .u32 338241895, .int .u32 666307205, .int .u32 773529912, .int .u32 1294757372, .int .u32 1396182291, .int .u32 1695183700, .int .u32 1986661051, .int .u32 2177026350, .int .u32 2456956037, .int .u32 2730485921, .int .u32 2820302411, .int .u32 3259730800, .int .u32 3345764771, .int .u32 3516065817, .int .u32 3600352804, .int .u32 4094571909, .int .u32 275423344, .int .u32 430227734, .int .u32 506948616, .int .u32 659060556, .int .u32 883997877, .int .u32 958139571, .int .u32 1322822218, .int .u32 1537002063, .int .u32 1747873779, .int .u32 1955562222, .int .u32 2024104815, .int .u32 2227730452, .int .u32 2361852424, .int .u32 2428436474, .int .u32 2756734187, .int .u32 3204031479, .int .u32 3329325298])).modify 0 (lay #[.int .u64 18446744069414583343, .int .u64 18446744073709551615, .int .u64 18446744073709551615, .int .u64 18446744073709551615, .int .u64 4294968273, .int .u64 0, .int .u64 0, .int .u64 0, .int .u64 13822214165235122497, .int .u64 13451932020343611451, .int .u64 18446744073709551614, .int .u64 18446744073709551615, .int .u64 4624529908474429119, .int .u64 4994812053365940164, .int .u64 1, .int .u64 0])) }
theorem laid_headZ {x : String × DataW Unit} {r : List (String × DataW Unit)} {W : World} (h : laidMet Tryd.prog (x :: r) W) : laidMet Tryd.prog [x] W := by
  obtain ⟨n, dd⟩ := x
  obtain ⟨ps, h1, h2, h3⟩ := h
  obtain ⟨g, t, cs, fuel, p, q, e1, e2, e3, e4, hr, rfl⟩ := h1
  refine ⟨MemPlace.row ⟨g, 0, none⟩ cs.size ++ p ++ [], ⟨g, t, cs, fuel, p, [], e1, e2, e3, e4, rfl, rfl⟩, ?_, fun b off hm => h3 b off ?_⟩
  · rw [List.append_nil]
    exact (List.nodup_append.1 h2).1
  · rw [List.append_nil] at hm
    exact List.mem_append_left _ hm
theorem tables_z {W : World} (h0 : laidMet Tryd.prog [("waybill/sha.first", Rows.laid_waybill_sha_first), ("waybill/sha.steps", Rows.laid_waybill_sha_steps), ("waybill/field.moduli", Rows.laid_waybill_field_moduli)] W) : Mds W ∧ ShT W := by
  have h1 := h0.tail
  have h2 := h1.tail
  exact ⟨mds_of (laid_headZ h2), ⟨S.first_of S.g_first (Lib.tabIs_of_head S.g_first S.t_first Tryd.underlying58 Tryd.underlying57 S.cellsU S.cells8 h0), S.steps_of S.g_steps (Lib.tabIs_of_head S.g_steps S.t_steps Tryd.underlying102 Tryd.underlying57 S.cellsU S.cells64 h1)⟩⟩
end Go.Proofs.YtncpjgpioajbeaaDoor
