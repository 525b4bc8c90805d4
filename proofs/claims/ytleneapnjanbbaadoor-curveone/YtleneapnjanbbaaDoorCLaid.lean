import Derived.Test.YtleneapnjanbbaaDoorFLaid
import Derived.Test.YtleneapnjanbbaaDoorCSumK
import Derived.Test.YtleneapnjanbbaaDoorCBits
import Derived.Test.YtleneapnjanbbaaDoorOpen
namespace Go.Proofs.YtleneapnjanbbaaDoor
open Go.ChangeShapes Go.WideShapes Go.ChangeAt Go.RowKit

/-- The table of columns. -/
def colP : List PP := [⟨0, 0, true⟩, ⟨55066263022277343669578718895168534326250603453777594175500187360389116729240, 32670510020758816978083085130507043184471273380659243275938904335757337482424, false⟩, ⟨23129491278950567785970148376500648032717531886785241126168611397589814798013, 39307099057880941662675806615359097347682728603444928455093651353540932186784, false⟩, ⟨39916386994098653651340504623184494026505192778969232963776799277217860096554, 77695575659854970078381054308384608904162856086065395460454541130246870330052, false⟩, ⟨64865771952738249789114440545196421582918768733599534045195125031385885360346, 46211216742671250426576585530459394900178019437443360579906162037052661563266, false⟩, ⟨62956393427022405755976450133369655038099213677278627754557760022799719382793, 13082069741720843297365566874415150979823939205374148607908286415326657186361, false⟩, ⟨65391324139359902950779012657131823058897528274710599622587298727820162666608, 55678678901976961034851141171099683764042537219738814451396256789998919516746, false⟩, ⟨13959939370688770666325487670456658803530339548113069433768761465106690066796, 22559511711903204205497612652453239942677781895148685816390096527086096797598, false⟩, ⟨106135013536326263233204638779771538367307463662639765758785315935371743257267, 86028625094535483850261571256264386723357163272666519397289099603747119225149, false⟩, ⟨9973306195059528124901308192896912065301586738602818704047887158603589307761, 47550737222913410146990392887207170422081805466962992704415224560240471273101, false⟩, ⟨10408235467190594532658284160018661939053509590544244223895117989310080411153, 31909477787222051652620693503372063818611156939026073808841074749836050586859, false⟩, ⟨34749749239048416579065784309763412727789817042898663625618004329631146599946, 95377962589647571915918767430902259246364047745309528926564157501801400736944, false⟩, ⟨35100291029465268200104524632206498974746160643734379820053186096493468629768, 63649237753185187991497345968307015122086344167628790568404068702224870699668, false⟩, ⟨48074804865593590526050057954317924768207876745616920563143825738670412255079, 39603649421637064702680441919339022540018356677245678064840325639551216127816, false⟩, ⟨97961733493436058853212079277933719455846400536489600403051700625241492430503, 79399374496004472965547648531290568228943717215858104057923735338968170318549, false⟩, ⟨37482150587009552227874965502370530439116956499492586127545708378008971686370, 26303144990879249190765029698997677228786829604307054541955121827041411670506, false⟩]
def cD (q : PP) : DataW Unit := .agg [Lib.tabData .u64 [l0 q.x, l1 q.x, l2 q.x, l3 q.x], Lib.tabData .u64 [l0 q.y, l1 q.y, l2 q.y, l3 q.y], .lit (.bool q.i)]
def Cols (W : World) : Prop := Pts W 0 0 colP
theorem cells_pt : Tryd.prog.cellsOf 28 = 9 := by kernel_rfl
theorem cells_bool : Tryd.prog.cellsOf 4 = 1 := by kernel_rfl
theorem g_columns : Tryd.prog.globalNamed "waybill/curve.columns" = some 0 := by kernel_rfl
theorem t_columns : (Tryd.prog.globals[0]?).map (·.type) = some 47 := by kernel_rfl
theorem laid_cols : (Rows.laid_waybill_curve_columns : DataW Unit) = .agg (colP.map cD) := by kernel_rfl

theorem nine {H : Type} {enc : TypeId × Value → H} {w : World} {base : Nat} {sp : Nat → Bool} {held : Bool} {fuel : Nat} {cs : List Value} {z1 z2 : List Int} {b : Bool} {p : List MemPlace}
    (h : DataW.trod enc Tryd.prog w base sp held fuel 28 cs = some (.agg [Lib.tabData .u64 z1, Lib.tabData .u64 z2, .lit (.bool b)], p)) : cs = (z1.map fun z => Value.int .u64 z) ++ ((z2.map fun z => Value.int .u64 z) ++ [.bool b]) := by
  obtain ⟨xs, m, rfl, hx, hl, hn, hi⟩ := DataW.trod_struct Tryd.underlying28 h
  have hxs : xs.map (·.1) = [Lib.tabData .u64 z1, Lib.tabData .u64 z2, .lit (.bool b)] := by
    have := congrArg Prod.fst hx
    simpa using this.symm
  match xs, hxs with
  | [(_, p1), (_, p2), (_, p3)], hxs =>
    simp only [List.map_cons, List.map_nil, List.cons.injEq, and_true] at hxs
    obtain ⟨rfl, rfl, rfl⟩ := hxs
    have a : List.take (Tryd.prog.cellsOf 26) (List.drop 0 cs) = z1.map fun z => Value.int .u64 z := four (hi 0 _ rfl)
    have c : List.take (Tryd.prog.cellsOf 26) (List.drop 4 cs) = z2.map fun z => Value.int .u64 z := four (hi 1 _ rfl)
    have d : DataW.trod enc Tryd.prog w base sp held m 4 (List.take (Tryd.prog.cellsOf 4) (List.drop 8 cs)) = some (.lit (.bool b), p3) := hi 2 _ rfl
    obtain ⟨b', e, hb⟩ := DataW.trod_bool Tryd.underlying4 d
    simp only [Prod.mk.injEq, DataW.lit.injEq, Lit.bool.injEq] at hb
    obtain ⟨rfl, _⟩ := hb
    rw [cells_bool] at e
    rw [cells_num] at a c
    rw [cells_pt] at hl
    rw [List.drop_zero] at a
    rw [← a, ← c, ← e]
    rw [show List.take 1 (List.drop 8 cs) = List.drop 8 cs from List.take_of_length_le (by simp; omega), show List.drop 8 cs = List.drop 4 (List.drop 4 cs) by rw [List.drop_drop], List.take_append_drop, List.take_append_drop]

theorem cols_of {W : World} {ps : List MemPlace} {r : List (String × DataW Unit)} (h : DataW.LaidVars Tryd.prog W (("waybill/curve.columns", Rows.laid_waybill_curve_columns) :: r) ps) : Cols W := by
  obtain ⟨g, t, cs, fuel, p, q, h1, h2, h3, h4, _, _⟩ := h
  obtain rfl : 0 = g := Option.some.inj (g_columns.symm.trans h1)
  obtain rfl : 47 = t := Option.some.inj (t_columns.symm.trans h2)
  rw [laid_cols] at h4
  obtain ⟨xs, m, rfl, hx, hl, hn, hi⟩ := DataW.trod_array Tryd.underlying47 h4
  have hxs : xs.map (·.1) = colP.map cD := by
    have := congrArg Prod.fst hx
    simp only [DataW.agg.injEq] at this
    exact this.symm
  intro k hk
  have hk16 : k < 16 := hk
  have hcell := fun j => World.var?_cell g_columns h3 (k * 9 + j)
  have hx1 := hi k (by simpa using hk16)
  have hxk : xs[k]? = (xs[k]?.map fun x => (cD (colP.getD k ⟨0, 0, true⟩), x.2)) := by
    have e1 : (xs.map (·.1))[k]? = (colP.map cD)[k]? := by rw [hxs]
    rw [List.getElem?_map, List.getElem?_map] at e1
    cases hv : xs[k]? with
    | none => rfl
    | some v =>
      rw [hv] at e1
      have hk' : k < colP.length := hk
      rw [List.getElem?_eq_getElem hk'] at e1
      simp only [Option.map_some, Option.some.injEq] at e1
      simp only [Option.map_some, Option.some.injEq, List.getD, List.getElem?_eq_getElem hk', Option.getD_some]
      rw [← e1]
  rw [hxk, List.getElem?_eq_getElem (by omega)] at hx1
  generalize colP.getD k ⟨0, 0, true⟩ = q at *
  have hv := nine hx1
  rw [cells_pt] at hv
  have get : ∀ j, j < 9 → W.cell? ⟨0, 0 + k * 9 + j, none⟩ = (List.take 9 (List.drop (k * 9) cs.toList))[j]? := fun j hj => by
    rw [Nat.zero_add, hcell j, List.getElem?_take, if_pos hj, List.getElem?_drop, Array.getElem?_toList]
  rw [hv] at get
  exact ⟨get 0 (by omega), get 1 (by omega), get 2 (by omega), get 3 (by omega), get 4 (by omega), get 5 (by omega), get 6 (by omega), get 7 (by omega), get 8 (by omega)⟩

theorem Cols.gat {W : World} (h : Cols W) : Gat W := by
  obtain ⟨a0, a1, a2, a3, a4, a5, a6, a7, a8⟩ := h 1 (by decide)
  obtain ⟨r0, r1, r2, r3, r4, r5, r6, r7⟩ := g_limbs
  have ex : (colP.getD 1 ⟨0, 0, true⟩) = ⟨gX, gY, false⟩ := rfl
  rw [ex] at a0 a1 a2 a3 a4 a5 a6 a7 a8
  simp only [r0, r1, r2, r3, r4, r5, r6, r7] at a0 a1 a2 a3 a4 a5 a6 a7 a8
  exact ⟨a0, a1, a2, a3, a4, a5, a6, a7, a8⟩

theorem mds_two {W : World} (h : laidMet Tryd.prog [("waybill/field.moduli", Rows.laid_waybill_field_moduli), ("waybill/curve.columns", Rows.laid_waybill_curve_columns)] W) : Mds W ∧ Cols W := by
  obtain ⟨ps, h1, h2, h3⟩ := h
  obtain ⟨g, t, cs, fuel, p, q, e1, e2, e3, e4, hr, rfl⟩ := h1
  refine ⟨mds_of ⟨MemPlace.row ⟨g, 0, none⟩ cs.size ++ p ++ [], ⟨g, t, cs, fuel, p, [], e1, e2, e3, e4, rfl, rfl⟩, ?_, fun b off hm => h3 b off ?_⟩, cols_of hr⟩
  · rw [List.append_nil]
    exact (List.nodup_append.1 h2).1
  · rw [List.append_nil] at hm
    exact List.mem_append_left _ hm
end Go.Proofs.YtleneapnjanbbaaDoor

/- Multiples, bit by bit: what the table of columns holds, and the numbers that a doubling carries on. -/
namespace Go.Proofs.YtleneapnjanbbaaDoor
open Go.RowKit Go.Sort

namespace EC
end EC

end Go.Proofs.YtleneapnjanbbaaDoor

namespace Go.Proofs.YtleneapnjanbbaaDoor
open Go.ChangeShapes Go.WideShapes Go.ChangeAt Go.RowKit

noncomputable def laidWorld2 (os : Os) : World :=
  { World.holding Tryd.prog os ⟨#[], #[], []⟩ with heap := ((World.holding Tryd.prog os ⟨#[], #[], []⟩).heap.modify 1 (lay #[.int .u64 18446744069414583343, .int .u64 18446744073709551615, .int .u64 18446744073709551615, .int .u64 18446744073709551615, .int .u64 4294968273, .int .u64 0, .int .u64 0, .int .u64 0, .int .u64 13822214165235122497, .int .u64 13451932020343611451, .int .u64 18446744073709551614, .int .u64 18446744073709551615, .int .u64 4624529908474429119, .int .u64 4994812053365940164, .int .u64 1, .int .u64 0])).modify 0 (lay #[.int .u64 0, .int .u64 0, .int .u64 0, .int .u64 0, .int .u64 0, .int .u64 0, .int .u64 0, .int .u64 0, .bool true, .int .u64 6481385041966929816, .int .u64 188021827762530521, .int .u64 6170039885052185351, .int .u64 8772561819708210092, .int .u64 11261198710074299576, .int .u64 18237243440184513561, .int .u64 6747795201694173352, .int .u64 5204712524664259685, .bool false, .int .u64 1420851491321734845, .int .u64 17831107051473821267, .int .u64 9413108694239768267, .int .u64 3684740546510474789, .int .u64 2662650928131781280, .int .u64 2883981885275847414, .int .u64 13812568353696053687, .int .u64 6261982155919216373, .bool false, .int .u64 15899977345824264746, .int .u64 10310977140856296777, .int .u64 11207366575403998835, .int .u64 6359047324193118621, .int .u64 17566133796674529988, .int .u64 12990217113396622202, .int .u64 11498484616657520550, .int .u64 12377619311449439617, .bool false, .int .u64 1980251557031362778, .int .u64 16756863388851544885, .int .u64 10536665754535663150, .int .u64 10333713660726959923, .int .u64 17455036783537422210, .int .u64 13540684701581249533, .int .u64 16005107816708579677, .int .u64 7361871559633811846, .bool false, .int .u64 7189408038385401609, .int .u64 3397911576708611646, .int .u64 15755510341721275955, .int .u64 10029532112266168108, .int .u64 2794201169108470329, .int .u64 645887947755712873, .int .u64 4931174713096550634, .int .u64 2084093948640608460, .bool false, .int .u64 13409131895327723632, .int .u64 13557674625938030135, .int .u64 16275355937442695028, .int .u64 10417438954465452788, .int .u64 7293935616499679818, .int .u64 492937957765346492, .int .u64 10164659162491674973, .int .u64 8870125298128062633, .bool false, .int .u64 2004001076105038188, .int .u64 16429338166490924218, .int .u64 7175890133001917215, .int .u64 2223946649134373680, .int .u64 11607770873604919198, .int .u64 16469900164231123228, .int .u64 17820852538206705865, .int .u64 3593937562733081572, .bool false, .int .u64 9168019297763648179, .int .u64 8816075333918259626, .int .u64 16698866808444609825, .int .u64 16908283155265469882, .int .u64 15310641167265880381, .int .u64 118986287662202457, .int .u64 14310892571121527386, .int .u64 13705150676395077690, .bool false, .int .u64 14927491246908460401, .int .u64 7831616176396585010, .int .u64 7930523596402033902, .int .u64 1588839342659650953, .int .u64 11339471586115939981, .int .u64 16425424334562750990, .int .u64 15075671426733661378, .int .u64 7575269483820816097, .bool false, .int .u64 4535017717314283025, .int .u64 18324438745077743535, .int .u64 5056040120946383205, .int .u64 1658127573194323653, .int .u64 18133035535924747499, .int .u64 7907431880967346421, .int .u64 616581366411006705, .int .u64 5083473095128411264, .bool false, .int .u64 12974736144201180682, .int .u64 14233411227978841142, .int .u64 4358153212020372812, .int .u64 5535954442660912120, .int .u64 17932457956034059440, .int .u64 8797357280977563443, .int .u64 6299842666943100343, .int .u64 15194586070186118748, .bool false, .int .u64 11141354014620826376, .int .u64 16302009388481732731, .int .u64 11549703435712443592, .int .u64 5591798971743609489, .int .u64 4790527292956897940, .int .u64 2208919640261539277, .int .u64 10755772759211753487, .int .u64 10139908581434562394, .bool false, .int .u64 4842478844822015847, .int .u64 7871910055282529227, .int .u64 4913385500608987935, .int .u64 7658758276064820865, .int .u64 17746207337886912328, .int .u64 6914052845562847217, .int .u64 319430231399701416, .int .u64 6309225354493542970, .bool false, .int .u64 13328850565126430375, .int .u64 13836286430769822485, .int .u64 14156113016990819452, .int .u64 15606204522890601161, .int .u64 445235178004499157, .int .u64 14633306866648641082, .int .u64 14566925108793696681, .int .u64 12649050125856105564, .bool false, .int .u64 9802307101542363618, .int .u64 171895469969889910, .int .u64 13186539695484122475, .int .u64 5971251091201341552, .int .u64 10817436025753510378, .int .u64 9901272048312714221, .int .u64 1150727803770249706, .int .u64 4190332752231381211, .bool false]) }

section
variable {H : Type} {enc : TypeId × Value → H} {w : World} {base : Nat} {spare : Nat → Bool} {held : Bool}

end
end Go.Proofs.YtleneapnjanbbaaDoor
