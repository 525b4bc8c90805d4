import Derived.Test.YtncpjgpioajbeaaGreatDoorCGrp
/- Multiples of points; every point is a multiple of a base of great odd order. -/
namespace Go.Proofs.YtncpjgpioajbeaaGreatDoor.EC

abbrev On (p : Pt) : Prop := OnC 7 p
theorem two : (2 : F) ≠ 0 := by decide +kernel
theorem three : (3 : F) ≠ 0 := by decide +kernel
theorem seven : (7 : F) ≠ 0 := by decide +kernel

theorem on_o : On .o := trivial
theorem Pt.comm {p q : Pt} (hp : On p) (hq : On q) : p.add q = q.add p := add_comm two hp hq
theorem Pt.assoc {p q r : Pt} (hp : On p) (hq : On q) (hr : On r) : (p.add q).add r = p.add (q.add r) := EC.assoc two three seven hp hq hr
theorem Pt.on {p q : Pt} (hp : On p) (hq : On q) : On (p.add q) := on_add two hp hq
/-- (a + b) + (c + d) = (a + c) + (b + d). -/
theorem Pt.four {a b c d : Pt} (ha : On a) (hb : On b) (hc : On c) (hd : On d) : (a.add b).add (c.add d) = (a.add c).add (b.add d) := by
  rw [Pt.assoc ha hb (Pt.on hc hd), ← Pt.assoc hb hc hd, Pt.comm hb hc, Pt.assoc hc hb hd, ← Pt.assoc ha hc (Pt.on hb hd)]

def smul : Nat → Pt → Pt
  | 0, _ => .o
  | k + 1, p => (smul k p).add p

theorem smul_on {p : Pt} (hp : On p) : ∀ k, On (smul k p)
  | 0 => on_o
  | k + 1 => Pt.on (smul_on hp k) hp
theorem smul_add {p : Pt} (hp : On p) (a : Nat) : ∀ b, smul (a + b) p = (smul a p).add (smul b p)
  | 0 => (add_o _).symm
  | b + 1 => by
    show (smul (a + b) p).add p = (smul a p).add ((smul b p).add p)
    rw [smul_add hp a b, Pt.assoc (smul_on hp a) (smul_on hp b) hp]
/-- A point's number. -/
def code : Pt → Nat
  | .o => 0
  | .a x y => 1 + 2 * x.val + y.val % 2
/-- A multiple of the base. -/
def Of (g p : Pt) : Prop := ∃ k, p = smul k g

end Go.Proofs.YtncpjgpioajbeaaGreatDoor.EC
