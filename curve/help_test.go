package curve_test

import (
	"encoding/hex"
	"math/big"
	"testing"

	"waybill/api"
	"waybill/chance"
	"waybill/u256"
)

const most = 1<<64 - 1 // the greatest limb

var (
	zero     = api.U256{}
	one      = api.U256{1}
	top      = api.U256{most, most, most, most} // 2^256 - 1
	noPoint  = api.Point{}
	identity = api.Point{Identity: true}
	base     = api.Point{ // the chapter's digits
		X: digits("79be667ef9dcbbac55a06295ce870b07029bfcdb2dce28d959f2815b16f81798"),
		Y: digits("483ada7726a3c4655da4fbfc0e1108a8fd17b448a68554199c47d08ffb10d4b8"),
	}
)

func num(v uint64) api.U256 { return api.U256{v} }

// digits reads a number in hexadecimal digits.
func digits(s string) api.U256 {
	n, ok := new(big.Int).SetString(s, 16)
	if !ok {
		panic("not digits: " + s)
	}
	return narrow(n)
}

// wide tells x for math/big, narrow goes back: by u256's bytes, which its own tests hold against math/big.

func wide(x api.U256) *big.Int {
	b := u256.Put(x)
	return new(big.Int).SetBytes(b[:])
}

func narrow(n *big.Int) api.U256 {
	x, e := u256.Get(n.Bytes())
	if e != api.OK || n.Sign() < 0 {
		panic("not below 2^256: " + n.String())
	}
	return x
}

// prime makes p by its rule, order n of the chapter's digits.

func prime() *big.Int {
	p := new(big.Int).Lsh(big.NewInt(1), 256)
	p.Sub(p, new(big.Int).Lsh(big.NewInt(1), 32))
	return p.Sub(p, big.NewInt(977))
}

func order() *big.Int {
	return wide(digits("fffffffffffffffffffffffffffffffebaaedce6af48a03bbfd25e8cd0364141"))
}

// near tells m and v more, or less, if v is below 0.
func near(m *big.Int, v int64) api.U256 { return narrow(new(big.Int).Add(m, big.NewInt(v))) }

// modP tells n modulo p.
func modP(n *big.Int) *big.Int { return n.Mod(n, prime()) }

// model is a point other than the identity, as the chapter has it; nil is the identity.
type model struct{ x, y *big.Int }

func modelOf(p api.Point) *model {
	if p.Identity {
		return nil
	}
	return &model{wide(p.X), wide(p.Y)}
}

func (m *model) point() api.Point {
	if m == nil {
		return identity
	}
	return api.Point{X: narrow(m.x), Y: narrow(m.y)}
}

// modelAdd follows the chapter's section 'The group' word for word.
func modelAdd(a, b *model) *model {
	if a == nil {
		return b
	}
	if b == nil {
		return a
	}
	if a.x.Cmp(b.x) == 0 && new(big.Int).Add(a.y, b.y).Cmp(prime()) == 0 {
		return nil
	}
	over, under := new(big.Int).Sub(b.y, a.y), new(big.Int).Sub(b.x, a.x)
	if a.x.Cmp(b.x) == 0 && a.y.Cmp(b.y) == 0 {
		over.Mul(big.NewInt(3), new(big.Int).Mul(a.x, a.x))
		under.Mul(big.NewInt(2), a.y)
	}
	m := modP(over.Mul(over, new(big.Int).ModInverse(modP(under), prime())))
	x := new(big.Int).Mul(m, m)
	modP(x.Sub(x.Sub(x, a.x), b.x))
	y := new(big.Int).Sub(a.x, x)
	modP(y.Sub(y.Mul(m, y), a.y))
	return &model{x, y}
}

// modelMul adds k points, by the binary digits of k.
func modelMul(k api.U256, a *model) *model {
	var sum *model
	n := wide(k)
	for i := n.BitLen() - 1; i >= 0; i-- {
		sum = modelAdd(sum, sum)
		if n.Bit(i) == 1 {
			sum = modelAdd(sum, a)
		}
	}
	return sum
}

func modelMulAdd(a, b api.U256, q api.Point) api.Point {
	return modelAdd(modelMul(a, modelOf(base)), modelMul(b, modelOf(q))).point()
}

// modelOn follows the chapter's section 'Types' word for word.
func modelOn(p api.Point) bool {
	x, y := wide(p.X), wide(p.Y)
	if p.Identity {
		return x.Sign() == 0 && y.Sign() == 0
	}
	if x.Cmp(prime()) >= 0 || y.Cmp(prime()) >= 0 {
		return false
	}
	rest := new(big.Int).Mul(y, y)
	rest.Sub(rest, new(big.Int).Exp(x, big.NewInt(3), nil))
	return modP(rest.Sub(rest, big.NewInt(7))).Sign() == 0
}

// modelLift tells the point with that x, or false if there is none.
func modelLift(x api.U256, odd bool) (api.Point, bool) {
	square := new(big.Int).Exp(wide(x), big.NewInt(3), nil)
	y := new(big.Int).ModSqrt(modP(square.Add(square, big.NewInt(7))), prime())
	if wide(x).Cmp(prime()) >= 0 || y == nil {
		return api.Point{}, false
	}
	if (y.Bit(0) == 1) != odd {
		y.Sub(prime(), y)
	}
	return api.Point{X: x, Y: narrow(y)}, true
}

// lifted tells the first point from x on, upwards or downwards.
func lifted(x *big.Int, step int64, odd bool) api.Point {
	for x = new(big.Int).Set(x); ; x.Add(x, big.NewInt(step)) {
		if p, ok := modelLift(narrow(x), odd); ok {
			return p
		}
	}
}

func modelNeg(p api.Point) api.Point {
	if !p.Identity {
		p.Y = narrow(new(big.Int).Sub(prime(), wide(p.Y)))
	}
	return p
}

// sisters tells the other two points with the y of p: their x is that of p times the roots of 1 of the third degree.
func sisters(p api.Point) (api.Point, api.Point) {
	third := new(big.Int).Exp(big.NewInt(3), new(big.Int).Div(prime(), big.NewInt(3)), prime())
	q, r := p, p
	q.X = narrow(modP(new(big.Int).Mul(wide(p.X), third)))
	r.X = narrow(modP(new(big.Int).Mul(wide(q.X), third)))
	return q, r
}

// lowY tells a point whose y is so small that y + p has 256 bits.
func lowY() api.Point {
	third := new(big.Int).Div(new(big.Int).Add(prime(), big.NewInt(2)), big.NewInt(9)) // the power that tells a cube's root, p being 7 modulo 9
	for y := int64(1); ; y++ {
		cube := modP(big.NewInt(y*y - 7))
		p := api.Point{X: narrow(new(big.Int).Exp(cube, third, prime())), Y: num(uint64(y))}
		if modelOn(p) {
			return p
		}
	}
}

// points: the identity, the base point and others with their opposites, points with one y, with the least and the greatest x, with an x between n and p, with a small y.
func points() []api.Point {
	double := modelAdd(modelOf(base), modelOf(base)).point()
	all := []api.Point{base, double, modelMul(num(3), modelOf(base)).point(), modelMul(top, modelOf(base)).point(), lowY()}
	second, third := sisters(base)
	all = append(all, second, third)
	for _, odd := range []bool{false, true} {
		all = append(all, lifted(big.NewInt(0), 1, odd), lifted(new(big.Int).Sub(prime(), big.NewInt(1)), -1, odd), lifted(order(), 1, odd))
	}
	for _, p := range all {
		all = append(all, modelNeg(p))
	}
	return append(all, identity)
}

// anyPoint tells a point with an x of the row, now and then the identity.
func anyPoint(row *chance.Row) api.Point {
	if row.Below(16) == 0 {
		return identity
	}
	return lifted(modP(wide(row.Number())), 1, row.Below(2) == 0)
}

// wrongPoints stand for none: pairs that are beside the curve, numbers of p and above (with what would be a point modulo p), an identity with numbers.
func wrongPoints() []api.Point {
	low, _ := modelLift(one, false)
	high := lowY()
	minus := modelNeg(base)
	least, more := narrow(prime()), near(prime(), 1)
	return []api.Point{
		{}, {X: one}, {Y: one}, // the second is of y y = x x x - 1
		{X: one, Y: one}, {X: base.X}, {Y: base.Y}, {X: base.Y, Y: base.X},
		{X: base.X, Y: near(wide(base.Y), 1)}, {X: near(wide(base.X), -1), Y: base.Y}, {X: base.X, Y: low.Y},
		{X: least}, {Y: least}, {X: least, Y: least}, {X: more, Y: low.Y}, {X: more, Y: modelNeg(low).Y},
		{X: high.X, Y: near(prime(), int64(high.Y[0]))}, {X: top, Y: top}, {X: base.X, Y: top}, {X: top, Y: base.Y}, {X: base.X, Y: least}, {X: least, Y: base.Y},
		{X: one, Identity: true}, {Y: one, Identity: true}, {X: base.X, Y: base.Y, Identity: true}, {X: minus.X, Y: minus.Y, Identity: true},
		{X: least, Identity: true}, {Y: least, Identity: true}, {X: least, Y: least, Identity: true}, {X: api.U256{0, 0, 0, 1}, Identity: true}, {Y: api.U256{0, 0, 0, 1 << 63}, Identity: true},
		{X: num(2), Y: num(4)},          // of y y = x x x + 8
		{X: base.X, Y: squared(base.Y)}, // y's square for y
		{X: num(5), Y: mirrored(5)},     // at an x that no point has
	}
}

func squared(y api.U256) api.U256 { return narrow(modP(new(big.Int).Mul(wide(y), wide(y)))) }

// mirrored tells a y with y y = - x x x - 7.
func mirrored(x int64) api.U256 {
	y := new(big.Int).ModSqrt(modP(big.NewInt(-x*x*x-7)), prime())
	if y == nil {
		panic("no root")
	}
	return narrow(y)
}

// factors: the multiples that the chapter's edges name, and those about each digit's and each limb's end.
func factors() []api.U256 {
	all := []api.U256{zero, one, num(2), num(3), num(7), num(15), num(16), num(17), top, near(wide(top), -1), near(wide(top), -15)}
	for _, v := range []int64{-17, -16, -15, -8, -2, -1, 0, 1, 2, 8, 15, 16, 17} {
		all = append(all, near(order(), v))
	}
	for _, places := range []uint{4, 60, 64, 128, 192, 252, 255} {
		power := new(big.Int).Lsh(big.NewInt(1), places)
		all = append(all, near(power, -1), narrow(power), near(power, 1))
	}
	half := new(big.Int).Rsh(order(), 1)
	return append(all, narrow(half), near(half, 1), narrow(prime()), near(prime(), -1), api.U256{most, 0, most, 0}, api.U256{0, most, 0, most})
}

func unhex(s string) []byte {
	b, err := hex.DecodeString(s)
	if err != nil {
		panic(err)
	}
	return b
}

// The helpers themselves: an error in them would hide one in the program.
func TestHelpers(t *testing.T) {
	if prime().Text(16) != "fffffffffffffffffffffffffffffffffffffffffffffffffffffffefffffc2f" || !prime().ProbablyPrime(20) || !order().ProbablyPrime(20) {
		t.Error("p or n")
	}
	for i, p := range points() {
		if !modelOn(p) || !modelOn(modelNeg(p)) || modelOf(p).point() != p {
			t.Errorf("the point %d is none", i)
		}
		if modelMul(narrow(order()), modelOf(p)) != nil {
			t.Errorf("n times the point %d is not the identity", i)
		}
	}
	for i, p := range wrongPoints() {
		if modelOn(p) {
			t.Errorf("the wrong point %d is one", i)
		}
	}
	second, third := sisters(base)
	if !modelOn(second) || !modelOn(third) || second.X == base.X || third.X == base.X || second.X == third.X {
		t.Error("sisters")
	}
	if y := lowY().Y; wide(y).Cmp(new(big.Int).Sub(wide(top), prime())) > 0 {
		t.Error("lowY")
	}
	for _, c := range []struct {
		k    string
		x, y string
	}{ // known from elsewhere
		{"3", "f9308a019258c31049344f85f89d5229b531c845836f99b08601f113bce036f9", "388f7b0f632de8140fe337e62a37f3566500a99934c2231b6cb9fd7584b8e672"},
		{"112233445566778899", "a90cc3d3f3e146daadfc74ca1372207cb4b725ae708cef713a98edd73d99ef29", "5a79d6b289610c68bc3b47f3d72f9788a26a06868b4d8e433e1e2ad76fb7dc76"},
		{"112233445566778899112233445566778899", "e5a2636bcfd412ebf36ec45b19bfb68a1bc5f8632e678132b885f7df99c5e9b3", "736c1ce161ae27b405cafd2a7520370153c2c861ac51d6c1d5985d9606b45f39"},
		{"28948022309329048855892746252171976963209391069768726095651290785379540373584", "a6b594b38fb3e77c6edf78161fade2041f4e09fd8497db776e546c41567feb3c", "71444009192228730cd8237a490feba2afe3d27d7cc1136bc97e439d13330d55"},
	} {
		k, _ := u256.Parse(c.k)
		if got := modelMul(k, modelOf(base)).point(); got != (api.Point{X: digits(c.x), Y: digits(c.y)}) {
			t.Errorf("%s times G = %v", c.k, got)
		}
	}
}
