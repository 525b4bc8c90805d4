package curve_test

import (
	"math/big"
	"testing"

	"waybill/api"
	"waybill/chance"
	"waybill/curve"
)

func checkMul(t *testing.T, k api.U256, p api.Point) {
	t.Helper()
	want := modelMul(k, modelOf(p)).point()
	if got, e := curve.Mul(k, p); got != want || e != api.OK {
		t.Fatalf("Mul(%x, %v) = %v, %d, want %v", k, p, got, e, want)
	}
}

func checkMulG(t *testing.T, k api.U256) {
	t.Helper()
	want := modelMul(k, modelOf(base)).point()
	if got := curve.MulG(k); got != want {
		t.Fatalf("MulG(%x) = %v, want %v", k, got, want)
	}
}

func checkMulAdd(t *testing.T, a, b api.U256, q api.Point) {
	t.Helper()
	want := modelMulAdd(a, b, q)
	if got, e := curve.MulAdd(a, b, q); got != want || e != api.OK {
		t.Fatalf("MulAdd(%x, %x, %v) = %v, %d, want %v", a, b, q, got, e, want)
	}
}

// P5.4: Mul with the edges' numbers, of the edges' points.
func TestMulEdges(t *testing.T) {
	some := []api.Point{base, identity, lowY(), lifted(new(big.Int).Sub(prime(), big.NewInt(1)), -1, true)}
	for _, k := range factors() {
		for _, p := range some {
			checkMul(t, k, p)
		}
	}
	for _, p := range points() {
		for _, k := range []api.U256{zero, one, num(2), near(order(), -1), narrow(order()), near(order(), 1), top} {
			checkMul(t, k, p)
		}
	}
}

// P5.4: Mul with any numbers of any points.
func TestMul(t *testing.T) {
	row := chance.Row(11)
	for range 150 {
		checkMul(t, row.Number(), anyPoint(&row))
	}
	for k := range uint64(300) {
		p := lifted(big.NewInt(int64(k)), 1, k&1 == 1)
		checkMul(t, num(k), p)
	}
}

// P5.4: MulG with the edges' numbers, with each bit alone, with each limb's bits in each company.
func TestMulG(t *testing.T) {
	for _, k := range factors() {
		checkMulG(t, k)
	}
	for i := range uint(256) {
		checkMulG(t, narrow(new(big.Int).Lsh(big.NewInt(1), i)))
	}
	for company := range uint64(16) {
		var k api.U256
		for j := range k {
			k[j] = (company >> j & 1) * 0x8000000100010081
		}
		checkMulG(t, k)
	}
	row := chance.Row(12)
	for range 200 {
		checkMulG(t, row.Number())
	}
}

// P5.4: MulG counts.
func TestMulGCounts(t *testing.T) {
	sum := identity
	for k := range uint64(600) {
		if got := curve.MulG(num(k)); got != sum {
			t.Fatalf("MulG(%d) = %v, want %v", k, got, sum)
		}
		sum = modelAdd(modelOf(sum), modelOf(base)).point()
	}
}

// P5.4: MulAdd: either part, or the sum, is the identity; the parts are the same or opposite.
func TestMulAddEdges(t *testing.T) {
	some := []api.Point{base, modelNeg(base), identity, lowY()}
	few := []api.U256{zero, one, num(2), num(16), near(order(), -2), near(order(), -1), narrow(order()), near(order(), 1), top}
	for _, q := range some {
		for _, a := range few {
			for _, b := range few {
				checkMulAdd(t, a, b, q)
			}
		}
	}
	row := chance.Row(13)
	for range 40 {
		a := row.Number()
		opposite := narrow(new(big.Int).Sub(order(), new(big.Int).Mod(wide(a), order())))
		checkMulAdd(t, a, a, base)
		checkMulAdd(t, a, a, modelNeg(base))
		checkMulAdd(t, a, opposite, base)
		checkMulAdd(t, a, opposite, modelNeg(base))
	}
}

// P5.4: MulAdd with any numbers.
func TestMulAdd(t *testing.T) {
	row := chance.Row(14)
	for range 150 {
		checkMulAdd(t, row.Number(), row.Number(), anyPoint(&row))
	}
	for _, k := range factors() {
		checkMulAdd(t, k, k, lowY())
	}
}

// P5.4: within the run of MulAdd the two parts meet: at any place what is there is what is to be added, or its opposite, and more follows.
func TestMulAddMeets(t *testing.T) {
	row := chance.Row(15)
	for range 150 {
		limb, place := uint(row.Below(4)), uint(row.Below(16)*4)
		c := big.NewInt(int64(row.Below(1000) + 1))
		// c times q is 2^(64 limb) times G.
		power := new(big.Int).Lsh(big.NewInt(1), 64*limb)
		share := power.Mul(power, new(big.Int).ModInverse(c, order()))
		q := modelMul(narrow(share.Mod(share, order())), modelOf(base)).point()
		if row.Below(2) == 0 {
			q = modelNeg(q)
		}
		below := new(big.Int).Sub(new(big.Int).Lsh(big.NewInt(1), place), big.NewInt(1))
		later := func() *big.Int { return new(big.Int).And(wide(row.Number()), below) }
		a := new(big.Int).Lsh(big.NewInt(1), 64*limb+place)
		b := new(big.Int).Lsh(c, place)
		checkMulAdd(t, narrow(a), narrow(b), q)
		checkMulAdd(t, narrow(a.Or(a, new(big.Int).Lsh(later(), 64*limb))), narrow(b.Or(b, later())), q)
	}
}

// P5.9: n times a point is the identity, and multiples of a point are added like numbers modulo n.
func TestMulGroup(t *testing.T) {
	row := chance.Row(16)
	some := points()
	for i := range 120 {
		p := some[i%len(some)]
		if i >= len(some) {
			p = anyPoint(&row)
		}
		if got, e := curve.Mul(narrow(order()), p); got != identity || e != api.OK {
			t.Errorf("Mul(n, %v) = %v, %d", p, got, e)
		}
		a, b := row.Number(), row.Number()
		first, _ := curve.Mul(a, p)
		second, _ := curve.Mul(b, p)
		sum, _ := curve.Add(first, second)
		both := new(big.Int).Add(wide(a), wide(b))
		if got, _ := curve.Mul(narrow(both.Mod(both, order())), p); got != sum || !curve.On(got) || !curve.On(first) {
			t.Errorf("Mul(%x + %x, %v) = %v, want %v", a, b, p, got, sum)
		}
	}
}

// The chapter's examples 3 and 6.
func TestExamplesOfMultiples(t *testing.T) {
	g := curve.G()
	minus, _ := curve.Neg(g)
	for i, c := range []struct {
		k    api.U256
		want api.Point
	}{{zero, identity}, {narrow(order()), identity}, {one, g}, {near(order(), 1), g}, {near(order(), -1), minus}} {
		if got := curve.MulG(c.k); got != c.want {
			t.Errorf("example 3: row %d: %v", i, got)
		}
	}
	if p, e := curve.Sum(); p != identity || e != api.OK {
		t.Errorf("example 3: Sum() = %v, %d", p, e)
	}
	if p, e := curve.Sum(g, g, minus); p != g || e != api.OK {
		t.Errorf("example 3: Sum(G, G, Neg(G)) = %v, %d", p, e)
	}
	if p, e := curve.Add(g, noPoint); p != noPoint || e != api.ErrCurvePoint {
		t.Errorf("example 6: Add = %v, %d", p, e)
	}
	if p, e := curve.Mul(zero, noPoint); p != noPoint || e != api.ErrCurvePoint {
		t.Errorf("example 6: Mul = %v, %d", p, e)
	}
	if p, e := curve.Sum(g, api.Point{X: one}); p != noPoint || e != api.ErrCurvePoint {
		t.Errorf("example 6: Sum = %v, %d", p, e)
	}
	if p, e := curve.MulAdd(num(2), num(3), g); p != curve.MulG(num(5)) || e != api.OK {
		t.Errorf("example 6: MulAdd = %v, %d", p, e)
	}
}
