package curve_test

import (
	"math/big"
	"slices"
	"testing"

	"waybill/api"
	"waybill/chance"
	"waybill/curve"
)

// P5.1: G
func TestG(t *testing.T) {
	if got := curve.G(); got != base {
		t.Errorf("G = %v", got)
	}
	g := curve.G()
	g.X[0]++
	if curve.G() != base {
		t.Error("G hangs on what was done with its answer")
	}
}

// P5.1: On of points and of values that stand for none.
func TestOn(t *testing.T) {
	for _, p := range points() {
		if !curve.On(p) {
			t.Errorf("On(%v) = false", p)
		}
	}
	for _, p := range wrongPoints() {
		if curve.On(p) {
			t.Errorf("On(%v) = true", p)
		}
	}
}

// P5.1: each bit of a point counts.
func TestOnChanged(t *testing.T) {
	row := chance.Row(1)
	for range 20 {
		p := anyPoint(&row)
		for i := range 256 {
			x, y := p, p
			x.X[i/64] ^= 1 << (i % 64)
			y.Y[i/64] ^= 1 << (i % 64)
			for _, q := range []api.Point{p, x, y} {
				if got := curve.On(q); got != modelOn(q) {
					t.Fatalf("On(%v) = %v", q, got)
				}
			}
		}
		p.Identity = !p.Identity
		if curve.On(p) {
			t.Errorf("On(%v) = true", p)
		}
	}
}

// call is a function of the package that is handed points, with some answer to compare.
type call struct {
	name string
	f    func(p api.Point) (api.Point, []byte, api.Errno)
}

// calls: each function that is handed points, with the point in question at each place, the others being right.
func calls() []call {
	onPoint := func(f func(p api.Point) (api.Point, api.Errno)) func(p api.Point) (api.Point, []byte, api.Errno) {
		return func(p api.Point) (api.Point, []byte, api.Errno) { q, e := f(p); return q, nil, e }
	}
	onBytes := func(f func(p api.Point) ([]byte, api.Errno)) func(p api.Point) (api.Point, []byte, api.Errno) {
		return func(p api.Point) (api.Point, []byte, api.Errno) { b, e := f(p); return api.Point{}, b, e }
	}
	all := []call{
		{"Neg", onPoint(curve.Neg)},
		{"Double", onPoint(curve.Double)},
		{"Compress", onBytes(curve.Compress)},
		{"Expand", onBytes(curve.Expand)},
		{"Add with itself", onPoint(func(p api.Point) (api.Point, api.Errno) { return curve.Add(p, p) })},
		{"Sum of one", onPoint(func(p api.Point) (api.Point, api.Errno) { return curve.Sum(p) })},
		{"Sum first", onPoint(func(p api.Point) (api.Point, api.Errno) { return curve.Sum(p, base, base) })},
		{"Sum middle", onPoint(func(p api.Point) (api.Point, api.Errno) { return curve.Sum(base, p, base) })},
		{"Sum last", onPoint(func(p api.Point) (api.Point, api.Errno) { return curve.Sum(base, identity, p) })},
	}
	for _, q := range []api.Point{base, identity, modelNeg(base)} {
		all = append(all,
			call{"Add first", onPoint(func(p api.Point) (api.Point, api.Errno) { return curve.Add(p, q) })},
			call{"Add second", onPoint(func(p api.Point) (api.Point, api.Errno) { return curve.Add(q, p) })})
	}
	for _, k := range []api.U256{zero, one, num(2), narrow(order()), top} {
		all = append(all,
			call{"Mul", onPoint(func(p api.Point) (api.Point, api.Errno) { return curve.Mul(k, p) })},
			call{"MulAdd", onPoint(func(p api.Point) (api.Point, api.Errno) { return curve.MulAdd(num(3), k, p) })},
			call{"MulAdd of 0", onPoint(func(p api.Point) (api.Point, api.Errno) { return curve.MulAdd(zero, k, p) })})
	}
	return all
}

// P5.2, P0.2: a value that stands for no point, wherever it is handed in, also where it is to be taken 0 times.
func TestNoPoint(t *testing.T) {
	for _, c := range calls() {
		for _, p := range wrongPoints() {
			if q, b, e := c.f(p); e != api.ErrCurvePoint || q != noPoint || b != nil {
				t.Errorf("%s of %v = %v, %x, %d", c.name, p, q, b, e)
			}
		}
		for _, p := range points() {
			if _, _, e := c.f(p); e == api.ErrCurvePoint {
				t.Errorf("%s of %v: ErrCurvePoint", c.name, p)
			}
		}
	}
}

// P5.3: Neg
func TestNeg(t *testing.T) {
	row := chance.Row(2)
	all := points()
	for range 200 {
		all = append(all, anyPoint(&row))
	}
	for _, p := range all {
		if got, e := curve.Neg(p); got != modelNeg(p) || e != api.OK {
			t.Errorf("Neg(%v) = %v, %d", p, got, e)
		}
	}
}

func checkAdd(t *testing.T, p, q api.Point) {
	t.Helper()
	want := modelAdd(modelOf(p), modelOf(q)).point()
	if got, e := curve.Add(p, q); got != want || e != api.OK {
		t.Fatalf("Add(%v, %v) = %v, %d, want %v", p, q, got, e, want)
	}
	if got, e := curve.Sum(p, q); got != want || e != api.OK {
		t.Fatalf("Sum(%v, %v) = %v, %d, want %v", p, q, got, e, want)
	}
}

// P5.3: Add: all pairs of points, among them a point and itself, a point and its opposite, the identity, points with one y.
func TestAdd(t *testing.T) {
	all := points()
	for _, p := range all {
		for _, q := range all {
			checkAdd(t, p, q)
		}
	}
	row := chance.Row(3)
	for range 300 {
		p, q := anyPoint(&row), anyPoint(&row)
		checkAdd(t, p, q)
		checkAdd(t, p, p)
		checkAdd(t, p, modelNeg(p))
	}
}

// P5.3: Double
func TestDouble(t *testing.T) {
	row := chance.Row(4)
	all := points()
	for range 300 {
		all = append(all, anyPoint(&row))
	}
	for _, p := range all {
		want := modelAdd(modelOf(p), modelOf(p)).point()
		if got, e := curve.Double(p); got != want || e != api.OK {
			t.Errorf("Double(%v) = %v, %d", p, got, e)
		}
	}
}

func checkSum(t *testing.T, list []api.Point) {
	t.Helper()
	var want *model
	for _, p := range list {
		want = modelAdd(want, modelOf(p))
	}
	if got, e := curve.Sum(list...); got != want.point() || e != api.OK {
		t.Fatalf("Sum(%v) = %v, %d, want %v", list, got, e, want.point())
	}
}

// P5.3, P0.4: Sum of none, whether nil or empty, and of one.
func TestSumOfFew(t *testing.T) {
	for _, list := range [][]api.Point{nil, {}, base2()[:0]} {
		if got, e := curve.Sum(list...); got != identity || e != api.OK {
			t.Errorf("Sum() = %v, %d", got, e)
		}
	}
	for _, p := range points() {
		checkSum(t, []api.Point{p})
	}
}

func base2() []api.Point { return []api.Point{base, base} }

// P5.3: Sum of many: the sums in between are often the next point, its opposite or the identity.
func TestSumOfMany(t *testing.T) {
	row := chance.Row(5)
	some := points()
	small := []api.Point{identity, base, modelNeg(base), some[1], modelNeg(some[1])}
	for n := range 80 {
		list := make([]api.Point, n)
		for i := range list {
			list[i] = some[row.Below(len(some))]
		}
		checkSum(t, list)
		for i := range list {
			list[i] = small[row.Below(len(small))]
		}
		checkSum(t, list)
	}
	checkSum(t, slices.Repeat([]api.Point{base}, 1000))
	checkSum(t, []api.Point{base, base, some[1], modelNeg(base), modelNeg(some[1])})
}

// P5.3, P0.3: Sum changes nothing of the list, nor of its room.
func TestSumKeepsList(t *testing.T) {
	whole := slices.Concat(points(), wrongPoints())
	before := slices.Clone(whole)
	for n := range whole {
		curve.Sum(whole[:n]...)
	}
	if !slices.Equal(whole, before) {
		t.Error("Sum has written into what it was given")
	}
}

// P5.5: Lift about the ends, and of many.
func TestLift(t *testing.T) {
	row := chance.Row(6)
	all := []api.U256{narrow(order()), near(order(), -1), top, near(wide(top), -1)}
	for v := range int64(40) {
		all = append(all, num(uint64(v)), near(prime(), v-40), near(prime(), v), near(wide(top), -v))
	}
	for range 300 {
		all = append(all, row.Number())
	}
	found := 0
	for _, x := range all {
		for _, odd := range []bool{false, true} {
			want, ok := modelLift(x, odd)
			wantE := api.ErrCurvePoint
			if ok {
				wantE = api.OK
				found++
			}
			if got, e := curve.Lift(x, odd); got != want || e != wantE {
				t.Errorf("Lift(%x, %v) = %v, %d, want %v, %d", x, odd, got, e, want, wantE)
			}
		}
	}
	if found < 100 || found > 2*len(all)-100 {
		t.Errorf("%d of %d were points", found, 2*len(all))
	}
}

// P5.5: no point has the x p + 1, though 1 is the x of one; nor p - 1, if its y has no root.
func TestLiftAboveP(t *testing.T) {
	for v := int64(0); v < 1000; v += 7 {
		for _, odd := range []bool{false, true} {
			if got, e := curve.Lift(near(prime(), v), odd); got != noPoint || e != api.ErrCurvePoint {
				t.Errorf("Lift(p + %d) = %v, %d", v, got, e)
			}
		}
	}
}

// P5.5: both points of an x are those that Neg takes to each other.
func TestLiftPairs(t *testing.T) {
	for _, p := range points() {
		if p.Identity {
			continue
		}
		odd := p.Y[0]&1 == 1
		if got, e := curve.Lift(p.X, odd); got != p || e != api.OK {
			t.Errorf("Lift(%x, %v) = %v, %d", p.X, odd, got, e)
		}
		if got, e := curve.Lift(p.X, !odd); got != modelNeg(p) || e != api.OK {
			t.Errorf("Lift(%x, %v) = %v, %d", p.X, !odd, got, e)
		}
	}
}

// P5.9: the order and the grouping, opposites, answers that are points.
func TestGroup(t *testing.T) {
	row := chance.Row(7)
	some := points()
	pick := func() api.Point {
		if row.Below(2) == 0 {
			return some[row.Below(len(some))]
		}
		return anyPoint(&row)
	}
	add := func(p, q api.Point) api.Point {
		sum, e := curve.Add(p, q)
		if e != api.OK || !curve.On(sum) {
			t.Fatalf("Add(%v, %v) = %v, %d", p, q, sum, e)
		}
		return sum
	}
	for range 500 {
		p, q, r := pick(), pick(), pick()
		whole, _ := curve.Sum(p, q, r)
		left, right := add(add(p, q), r), add(p, add(q, r))
		other, _ := curve.Sum(r, p, q)
		if left != right || left != whole || left != other {
			t.Errorf("%v, %v, %v: the grouping counts", p, q, r)
		}
		if add(p, q) != add(q, p) {
			t.Errorf("%v, %v: the order counts", p, q)
		}
		minus, e := curve.Neg(p)
		if e != api.OK || !curve.On(minus) || add(p, minus) != identity {
			t.Errorf("%v and its opposite", p)
		}
		if double, _ := curve.Double(p); double != add(p, p) {
			t.Errorf("%v doubled", p)
		}
	}
}

// P5.9: points with one y lie on a line: they make the identity.
func TestGroupOneY(t *testing.T) {
	row := chance.Row(8)
	for range 50 {
		p := lifted(modP(wide(row.Number())), 1, false)
		q, r := sisters(p)
		if got, e := curve.Sum(p, q, r); got != identity || e != api.OK {
			t.Errorf("Sum(%v, %v, %v) = %v, %d", p, q, r, got, e)
		}
		if got, e := curve.Add(p, q); got != modelNeg(r) || e != api.OK {
			t.Errorf("Add(%v, %v) = %v, %d", p, q, got, e)
		}
	}
}

// The chapter's examples 1, 2, 4.
func TestExamplesOfPoints(t *testing.T) {
	g := curve.G()
	if !curve.On(g) || curve.On(api.Point{}) || !curve.On(api.Point{Identity: true}) || curve.On(api.Point{X: one, Identity: true}) {
		t.Error("example 1")
	}
	low, e := curve.Lift(one, false)
	if e != api.OK || low != (api.Point{X: one, Y: digits("4218f20ae6c646b363db68605822fb14264ca8d2587fdd6fbc750d587e76a7ee")}) {
		t.Errorf("example 4: Lift(1, false) = %v, %d", low, e)
	}
	low.X = near(prime(), 1)
	if curve.On(low) {
		t.Error("example 1: x + p")
	}
	two := api.Point{X: digits("c6047f9441ed7d6d3045406e95c07cd85c778e4b8cef3ca7abac09b95c709ee5"), Y: digits("1ae168fea63dc339a3c58419466ceaeef7f632653266d0e1236431a950cfe52a")}
	double, _ := curve.Double(g)
	sum, _ := curve.Add(g, g)
	if double != two || sum != two || curve.MulG(num(2)) != two {
		t.Errorf("example 2: %v, %v, %v", double, sum, curve.MulG(num(2)))
	}
	for _, c := range []struct {
		x   api.U256
		odd bool
	}{{num(5), true}, {narrow(prime()), false}, {zero, true}} {
		if p, e := curve.Lift(c.x, c.odd); p != noPoint || e != api.ErrCurvePoint {
			t.Errorf("example 4: Lift(%x, %v) = %v, %d", c.x, c.odd, p, e)
		}
	}
}

// P5.10, P0.6: the same again, whatever ran in between or beside.
func TestSameAgain(t *testing.T) {
	k := digits("123456789abcdef0fedcba98765432100123456789abcdeffedcba9876543210")
	want, _ := curve.MulAdd(k, one, base)
	done := make(chan api.Point)
	for i := range 8 {
		go func() {
			curve.MulG(num(uint64(i)))
			curve.Sum(wrongPoints()...)
			p, _ := curve.MulAdd(k, one, base)
			done <- p
		}()
	}
	for range 8 {
		if got := <-done; got != want {
			t.Errorf("MulAdd = %v, want %v", got, want)
		}
	}
	if want != modelMul(narrow(new(big.Int).Add(wide(k), big.NewInt(1))), modelOf(base)).point() {
		t.Errorf("MulAdd = %v", want)
	}
}
