package address_test

import (
	"testing"

	"waybill/address"
	"waybill/api"
	"waybill/chance"
	"waybill/curve"
)

// checkPoint holds OfPoint against its model (P9.1, P0.2) and tells its error.
func checkPoint(t *testing.T, p api.Point) api.Errno {
	t.Helper()
	want, wantE := modelOfPoint(p)
	if got, e := address.OfPoint(p); got != want || e != wantE {
		t.Errorf("OfPoint(%v) = %x, %d, want %x, %d", p, got, e, want, wantE)
	}
	return wantE
}

// checkKey holds OfKey against its model (P9.2, P0.2), and tells its error.
func checkKey(t *testing.T, key api.U256) api.Errno {
	t.Helper()
	want, wantE := modelOfKey(key)
	if got, e := address.OfKey(key); got != want || e != wantE {
		t.Errorf("OfKey(%x) = %x, %d, want %x, %d", key, got, e, want, wantE)
	}
	return wantE
}

// P9.1, P9.2: the chapter's first example.
func TestExamplesOfKeys(t *testing.T) {
	for _, c := range []struct {
		key  api.U256
		want string
	}{{api.U256{1}, "7e5f4552091a69125d5dfcb7b8c2659029395bdf"}, {api.U256{2}, "2b5ad5c4795c026514f8317c7a215e218dccd6cf"}, {near(order(), -1), "80c0dbf239224071c59dd8970ab9d542e3414ab2"}} {
		if got, e := address.OfKey(c.key); got != called(c.want) || e != api.OK {
			t.Errorf("OfKey(%x) = %x, %d", c.key, got, e)
		}
	}
	if got, e := address.OfPoint(curve.G()); got != called("7e5f4552091a69125d5dfcb7b8c2659029395bdf") || e != api.OK {
		t.Errorf("OfPoint(G) = %x, %d", got, e)
	}
	for _, key := range []api.U256{{}, narrow(order())} {
		if got, e := address.OfKey(key); got != nobody || e != api.ErrKey {
			t.Errorf("OfKey(%x) = %x, %d", key, got, e)
		}
	}
	for _, p := range []api.Point{identity, {}} {
		if got, e := address.OfPoint(p); got != nobody || e != api.ErrCurvePoint {
			t.Errorf("OfPoint(%v) = %x, %d", p, got, e)
		}
	}
}

// P9.1, P9.2: keys whose addresses are known from other programs' tests.
func TestKnownKeys(t *testing.T) {
	for key, want := range map[string]string{
		"289c2857d4598e37fb9647507e47a309d6133539bf21a8b9cb6df88fd5232032": "970e8128ab834e8eac17ab8e3812f010678cf791",
		"45a915e4d060149eb4365960e6a7a45f334393093061116b197e3240065ff2d8": "a94f5374fce5edbc8e2a8697c15331677e6ebf0b",
		"4646464646464646464646464646464646464646464646464646464646464646": "9d8a62f656a8d1615c1294fd71e9cfb3e4855a4f",
		"ac0974bec39a17e36ba4a6b4d238ff944bacb478cbed5efcae784d7bf4f2ff80": "f39fd6e51aad88f6f4ce6ab8827279cfffb92266",
		"b71c71a67e1177ad4e901695e1b4b9ee17ae16c6668d313eac2f96dbcda3f291": "71562b71999873db5b286df957af199ec94617f7",
		"c85ef7d79691fe79573b1a7064c19c1a9819ebdbd1faaab1a8ec92344438aaf4": "cd2a3d9f938e13cd947ec05abc7fe734df8dd826",
	} {
		if got, e := address.OfKey(number(key)); got != called(want) || e != api.OK {
			t.Errorf("OfKey(%s) = %x, %d, want %s", key, got, e, want)
		}
		if got, e := address.OfPoint(curve.MulG(number(key))); got != called(want) || e != api.OK {
			t.Errorf("OfPoint of %s times G = %x, %d, want %s", key, got, e, want)
		}
	}
}

// P9.1: points of all kinds, numbers with zeros ahead among them; their opposites and the two numbers the wrong way round have other addresses, or none.
func TestOfPoint(t *testing.T) {
	row := chance.Row(2)
	all := points()
	for range 200 {
		all = append(all, anyPoint(&row))
	}
	seen := map[api.Address]api.Point{}
	for _, p := range all {
		opposite, _ := curve.Neg(p)
		checkPoint(t, api.Point{X: p.Y, Y: p.X})
		for _, q := range []api.Point{p, opposite} {
			if e := checkPoint(t, q); e != api.OK {
				t.Errorf("the point %v is refused: %d", q, e)
			}
			a, _ := address.OfPoint(q)
			if other, ok := seen[a]; ok && other != q {
				t.Errorf("%v and %v have one address", q, other)
			}
			seen[a] = q
		}
	}
}

// P9.1: what stands for no point is refused: numbers off the curve, of p or above, an identity with numbers, the identity.
func TestOfNoPoint(t *testing.T) {
	low, _ := curve.Lift(api.U256{1}, false)
	small, g := lowY(), curve.G()
	wrong := []api.Point{
		{}, identity, {X: g.X, Identity: true}, {Y: g.Y, Identity: true}, {X: g.X, Y: g.Y, Identity: true}, {X: api.U256{1}, Identity: true},
		{X: g.X}, {Y: g.Y}, {X: api.U256{1}, Y: api.U256{1}}, {X: top, Y: top}, {X: narrow(prime()), Y: narrow(prime())},
		{X: near(prime(), 1), Y: low.Y},                       // x + p
		{X: small.X, Y: near(prime(), int64(small.Y[0]))},     // y + p
		{X: narrow(prime()), Y: api.U256{}}, {X: api.U256{5}}, // no point has the x 0 or 5
	}
	for _, p := range wrong {
		if e := checkPoint(t, p); e != api.ErrCurvePoint {
			t.Errorf("the model takes %v", p)
		}
	}
	row := chance.Row(3)
	for range 300 {
		p := anyPoint(&row)
		bit := row.Below(512)
		if bit < 256 {
			p.X[bit/64] ^= 1 << (bit % 64)
		} else {
			p.Y[bit/64-4] ^= 1 << (bit % 64)
		}
		checkPoint(t, p)
		checkPoint(t, api.Point{X: row.Number(), Y: row.Number(), Identity: row.Below(4) == 0})
	}
}

// P9.2: the keys at both ends, the numbers beyond them, and keys by chance.
func TestOfKey(t *testing.T) {
	for v := int64(0); v < 40; v++ {
		if e := checkKey(t, api.U256{uint64(v)}); (e == api.OK) != (v > 0) {
			t.Errorf("the model of OfKey(%d): %d", v, e)
		}
		if e := checkKey(t, near(order(), -v)); (e == api.OK) != (v > 0) {
			t.Errorf("the model of OfKey(n - %d): %d", v, e)
		}
		if e := checkKey(t, near(order(), v)); e != api.ErrKey {
			t.Errorf("the model of OfKey(n + %d): %d", v, e)
		}
		checkKey(t, near(wide(top), -v))
		checkKey(t, near(prime(), v-20))
	}
	row := chance.Row(4)
	counts := map[api.Errno]int{}
	for i := range 400 {
		key := row.Number()
		if i%2 == 0 { // so that many are beside n
			key[3], key[2] = most, most-uint64(row.Below(3))
		}
		counts[checkKey(t, key)]++
	}
	if counts[api.OK] < 50 || counts[api.ErrKey] < 50 {
		t.Errorf("an answer hardly ever comes: %v", counts)
	}
}

// P9.2: half of n, where a signature's s must end, is no end for a key.
func TestOfKeyAroundHalf(t *testing.T) {
	half := order()
	half.Rsh(half, 1)
	for v := int64(-3); v <= 3; v++ {
		if e := checkKey(t, near(half, v)); e != api.OK {
			t.Errorf("the model of OfKey((n - 1) / 2 + %d): %d", v, e)
		}
	}
}
