import Derived.Test.YtohdeeidhgkgiaaDoorOpen
import Derived.Test.YtohdeeidhgkgiaaDoorCLaid
namespace Go.Proofs.YtohdeeidhgkgiaaDoor
open Go.ChangeShapes Go.WideShapes Go.ChangeAt Go.RowKit

noncomputable def laidWorld2 (os : Os) : World :=
  { World.holding Tryd.prog os ⟨#[], #[], []⟩ with heap := ((World.holding Tryd.prog os ⟨#[], #[], []⟩).heap.modify 1 (lay #[.int .u64 18446744069414583343, .int .u64 18446744073709551615, .int .u64 18446744073709551615, .int .u64 18446744073709551615, .int .u64 4294968273, .int .u64 0, .int .u64 0, .int .u64 0, .int .u64 13822214165235122497, .int .u64 13451932020343611451, .int .u64 18446744073709551614, .int .u64 18446744073709551615, .int .u64 4624529908474429119, .int .u64 4994812053365940164, .int .u64 1, .int .u64 0])).modify 0 (lay #[.int .u64 0, .int .u64 0, .int .u64 0, .int .u64 0, .int .u64 0, .int .u64 0, .int .u64 0, .int .u64 0, .bool true, .int .u64 6481385041966929816, .int .u64 188021827762530521, .int .u64 6170039885052185351, .int .u64 8772561819708210092, .int .u64 11261198710074299576, .int .u64 18237243440184513561, .int .u64 6747795201694173352, .int .u64 5204712524664259685, .bool false, .int .u64 1420851491321734845, .int .u64 17831107051473821267, .int .u64 9413108694239768267, .int .u64 3684740546510474789, .int .u64 2662650928131781280, .int .u64 2883981885275847414, .int .u64 13812568353696053687, .int .u64 6261982155919216373, .bool false, .int .u64 15899977345824264746, .int .u64 10310977140856296777, .int .u64 11207366575403998835, .int .u64 6359047324193118621, .int .u64 17566133796674529988, .int .u64 12990217113396622202, .int .u64 11498484616657520550, .int .u64 12377619311449439617, .bool false, .int .u64 1980251557031362778, .int .u64 16756863388851544885, .int .u64 10536665754535663150, .int .u64 10333713660726959923, .int .u64 17455036783537422210, .int .u64 13540684701581249533, .int .u64 16005107816708579677, .int .u64 7361871559633811846, .bool false, .int .u64 7189408038385401609, .int .u64 3397911576708611646, .int .u64 15755510341721275955, .int .u64 10029532112266168108, .int .u64 2794201169108470329, .int .u64 645887947755712873, .int .u64 4931174713096550634, .int .u64 2084093948640608460, .bool false, .int .u64 13409131895327723632, .int .u64 13557674625938030135, .int .u64 16275355937442695028, .int .u64 10417438954465452788, .int .u64 7293935616499679818, .int .u64 492937957765346492, .int .u64 10164659162491674973, .int .u64 8870125298128062633, .bool false, .int .u64 2004001076105038188, .int .u64 16429338166490924218, .int .u64 7175890133001917215, .int .u64 2223946649134373680, .int .u64 11607770873604919198, .int .u64 16469900164231123228, .int .u64 17820852538206705865, .int .u64 3593937562733081572, .bool false, .int .u64 9168019297763648179, .int .u64 8816075333918259626, .int .u64 16698866808444609825, .int .u64 16908283155265469882, .int .u64 15310641167265880381, .int .u64 118986287662202457, .int .u64 14310892571121527386, .int .u64 13705150676395077690, .bool false, .int .u64 14927491246908460401, .int .u64 7831616176396585010, .int .u64 7930523596402033902, .int .u64 1588839342659650953, .int .u64 11339471586115939981, .int .u64 16425424334562750990, .int .u64 15075671426733661378, .int .u64 7575269483820816097, .bool false, .int .u64 4535017717314283025, .int .u64 18324438745077743535, .int .u64 5056040120946383205, .int .u64 1658127573194323653, .int .u64 18133035535924747499, .int .u64 7907431880967346421, .int .u64 616581366411006705, .int .u64 5083473095128411264, .bool false, .int .u64 12974736144201180682, .int .u64 14233411227978841142, .int .u64 4358153212020372812, .int .u64 5535954442660912120, .int .u64 17932457956034059440, .int .u64 8797357280977563443, .int .u64 6299842666943100343, .int .u64 15194586070186118748, .bool false, .int .u64 11141354014620826376, .int .u64 16302009388481732731, .int .u64 11549703435712443592, .int .u64 5591798971743609489, .int .u64 4790527292956897940, .int .u64 2208919640261539277, .int .u64 10755772759211753487, .int .u64 10139908581434562394, .bool false, .int .u64 4842478844822015847, .int .u64 7871910055282529227, .int .u64 4913385500608987935, .int .u64 7658758276064820865, .int .u64 17746207337886912328, .int .u64 6914052845562847217, .int .u64 319430231399701416, .int .u64 6309225354493542970, .bool false, .int .u64 13328850565126430375, .int .u64 13836286430769822485, .int .u64 14156113016990819452, .int .u64 15606204522890601161, .int .u64 445235178004499157, .int .u64 14633306866648641082, .int .u64 14566925108793696681, .int .u64 12649050125856105564, .bool false, .int .u64 9802307101542363618, .int .u64 171895469969889910, .int .u64 13186539695484122475, .int .u64 5971251091201341552, .int .u64 10817436025753510378, .int .u64 9901272048312714221, .int .u64 1150727803770249706, .int .u64 4190332752231381211, .bool false]) }

section
variable {H : Type} {enc : TypeId × Value → H} {w : World} {base : Nat} {spare : Nat → Bool} {held : Bool}

set_option maxRecDepth 4000 in
theorem trod_num4 {fuel : Nat} {cs : List Value} {x : DataW H × List MemPlace} (h : DataW.trod enc Tryd.prog w base spare held fuel 24 cs = some x) :
    ∃ n, Num n ∧ cs = [.int .u64 (l0 n), .int .u64 (l1 n), .int .u64 (l2 n), .int .u64 (l3 n)] ∧ x = (dat n, []) := by
  obtain ⟨xs, m, rfl, hx, hl, hn, hi⟩ := DataW.trod_array Tryd.underlying24 h
  rw [Tryd.cellsN] at hl
  simp only [Tryd.cellsW] at hi
  have i0 := hi 0 (by decide); have i1 := hi 1 (by decide); have i2 := hi 2 (by decide); have i3 := hi 3 (by decide)
  match cs, hl with
  | [c0, c1, c2, c3], _ =>
    match xs, hn with
    | [y0, y1, y2, y3], _ =>
      simp at i0 i1 i2 i3
      obtain ⟨a0, e0, rfl, w0⟩ := DataW.trod_int Tryd.underlying22 i0
      obtain ⟨a1, e1, rfl, w1⟩ := DataW.trod_int Tryd.underlying22 i1
      obtain ⟨a2, e2, rfl, w2⟩ := DataW.trod_int Tryd.underlying22 i2
      obtain ⟨a3, e3, rfl, w3⟩ := DataW.trod_int Tryd.underlying22 i3
      simp at e0 e1 e2 e3
      subst e0 e1 e2 e3
      have k0 := word_of_wf w0; have k1 := word_of_wf w1; have k2 := word_of_wf w2; have k3 := word_of_wf w3
      obtain ⟨r0, r1, r2, r3⟩ := limbs_of k0 k1 k2 k3 rfl
      refine ⟨num a0 a1 a2 a3, num_Num k0 k1 k2 k3, ?_, ?_⟩
      · rw [r0, r1, r2, r3]
      · unfold dat; rw [r0, r1, r2, r3]; simpa using hx

set_option maxRecDepth 4000 in
theorem open_point {r : Reach} {b0 : Nat} {v : Value} {d : DataW H} {p : List MemPlace} (hv : Value.okWide Tryd.prog w r b0 26 v) (h : DataW.Trod enc Tryd.prog w base spare held 26 v d p) :
    ∃ x y i, Num x ∧ Num y ∧ v = .agg #[.int .u64 (l0 x), .int .u64 (l1 x), .int .u64 (l2 x), .int .u64 (l3 x), .int .u64 (l0 y), .int .u64 (l1 y), .int .u64 (l2 y), .int .u64 (l3 y), .bool i] ∧ d = .agg [dat x, dat y, .lit (.bool i)] ∧ p = [] := by
  obtain ⟨cs, rfl, hsz⟩ : ∃ cs : Array Value, v = .agg cs ∧ cs.size = 9 := by
    simp only [Value.okWide, Tryd.underlying26] at hv
    obtain ⟨cs, h1, h2, _⟩ := hv
    exact ⟨cs, h1, h2.trans cells_pt⟩
  obtain ⟨fuel, hf⟩ := h
  obtain ⟨xs, m, rfl, hx, hl, hn, hi⟩ := DataW.trod_struct Tryd.underlying26 hf
  match xs, hn with
  | [y0, y1, y2], _ =>
    have a : DataW.trod enc Tryd.prog w base spare held m 24 (List.take (Tryd.prog.cellsOf 24) (List.drop 0 (Value.agg cs).cells.toList)) = some y0 := hi 0 _ rfl
    have c : DataW.trod enc Tryd.prog w base spare held m 24 (List.take (Tryd.prog.cellsOf 24) (List.drop 4 (Value.agg cs).cells.toList)) = some y1 := hi 1 _ rfl
    have e : DataW.trod enc Tryd.prog w base spare held m 4 (List.take (Tryd.prog.cellsOf 4) (List.drop 8 (Value.agg cs).cells.toList)) = some y2 := hi 2 _ rfl
    obtain ⟨x, nx, ex, rfl⟩ := trod_num4 a
    obtain ⟨y, ny, ey, rfl⟩ := trod_num4 c
    obtain ⟨b, eb, rfl⟩ := DataW.trod_bool Tryd.underlying4 e
    rw [cells_bool] at eb
    rw [cells_num] at ex ey
    simp only [Value.cells] at ex ey eb
    refine ⟨x, y, b, nx, ny, ?_, ?_, ?_⟩
    · congr 1
      apply Array.ext'
      have l9 : cs.toList.length = 9 := by simpa using hsz
      have e : cs.toList = List.take 4 (List.drop 0 cs.toList) ++ (List.take 4 (List.drop 4 cs.toList) ++ List.take 1 (List.drop 8 cs.toList)) := by
        rw [List.drop_zero, show List.take 1 (List.drop 8 cs.toList) = List.drop 8 cs.toList from List.take_of_length_le (by simp; omega), show List.drop 8 cs.toList = List.drop 4 (List.drop 4 cs.toList) by rw [List.drop_drop], List.take_append_drop, List.take_append_drop]
      rw [e, ex, ey, eb]
      rfl
    · simpa using congrArg Prod.fst hx
    · simpa using congrArg Prod.snd hx

theorem shut_point (x y : Int) (i : Bool) : DataW.Trod enc Tryd.prog w base spare held 26 (.agg #[.int .u64 (l0 x), .int .u64 (l1 x), .int .u64 (l2 x), .int .u64 (l3 x), .int .u64 (l0 y), .int .u64 (l1 y), .int .u64 (l2 y), .int .u64 (l3 y), .bool i]) (.agg [dat x, dat y, .lit (.bool i)]) [] := by
  refine ⟨4, ?_⟩
  have w0 := wf_of_word (l0_word x); have w1 := wf_of_word (l1_word x); have w2 := wf_of_word (l2_word x); have w3 := wf_of_word (l3_word x)
  have u0 := wf_of_word (l0_word y); have u1 := wf_of_word (l1_word y); have u2 := wf_of_word (l2_word y); have u3 := wf_of_word (l3_word y)
  simp [DataW.trod, Value.cells, Tryd.underlying26, Tryd.underlying24, Tryd.underlying22, Tryd.underlying4, cells_pt, cells_bool, cells_num, Tryd.cellsW, w0, w1, w2, w3, u0, u1, u2, u3, dat, List.range_succ]
end
end Go.Proofs.YtohdeeidhgkgiaaDoor
