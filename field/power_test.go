package field_test

import (
	"math/big"
	"testing"

	"waybill/api"
	"waybill/chance"
	"waybill/field"
)

func checkExp(t *testing.T, k int, x, e api.U256) {
	t.Helper()
	want := narrow(new(big.Int).Exp(wide(x), wide(e), modelModulus(k)))
	if got, err := field.Exp(k, x, e); got != want || err != api.OK {
		t.Fatalf("Exp(%d, %x, %x) = %x, %d, want %x", k, x, e, got, err, want)
	}
}

// P4.3: all pairs of edges: bases of 0 and of the modulus, exponents of 0, of the modulus and above it among them.
func TestExp(t *testing.T) {
	all := edges()
	row := chance.Row(5)
	for _, k := range kinds {
		for _, x := range all {
			for _, e := range all {
				checkExp(t, k, x, e)
			}
		}
		for range 200 {
			checkExp(t, k, row.Number(), row.Number())
		}
	}
}

// P4.3: small exponents by products alone.
func TestExpByProducts(t *testing.T) {
	for _, k := range kinds {
		for _, x := range []api.U256{zero, one, num(2), num(7), near(k, -1), near(k, 0), near(k, 1), top} {
			power := one
			for e := range uint64(130) {
				if got, err := field.Exp(k, x, num(e)); got != power || err != api.OK {
					t.Fatalf("Exp(%d, %x, %d) = %x, %d, want %x", k, x, e, got, err, power)
				}
				power, _ = field.Mul(k, power, x)
			}
		}
	}
}

// P4.3: the chapter's example 3; the power of 0 for bases that are 0 modulo the modulus, too; an exponent above the modulus is not taken modulo it.
func TestExpExamples(t *testing.T) {
	p, n := api.FieldP, api.FieldN
	for _, c := range []struct {
		name    string
		k       int
		x, e, y api.U256
	}{
		{"Exp(p, 2, 256)", p, num(2), num(256), num(4294968273)},
		{"Exp(n, 0, 0)", n, zero, zero, one},
		{"Exp(p, 0, 0)", p, zero, zero, one},
		{"Exp(p, p, 0)", p, near(p, 0), zero, one},
		{"Exp(n, n, 0)", n, near(n, 0), zero, one},
		{"Exp(p, 0, 1)", p, zero, one, zero},
		{"Exp(n, n, 2^256 - 1)", n, near(n, 0), top, zero},
		{"Exp(p, 3, p - 1)", p, num(3), near(p, -1), one},
		{"Exp(p, 3, p)", p, num(3), near(p, 0), num(3)},
		{"Exp(n, 3, n)", n, num(3), near(n, 0), num(3)},
		{"Exp(p, 3, p + 1)", p, num(3), near(p, 1), num(9)},
		{"Exp(n, 3, n + 1)", n, num(3), near(n, 1), num(9)},
	} {
		if y, e := field.Exp(c.k, c.x, c.e); y != c.y || e != api.OK {
			t.Errorf("%s = %x, %d", c.name, y, e)
		}
	}
}

// P4.3, what follows: Fermat.
func TestFermat(t *testing.T) {
	checkEach(50, func(k int, x api.U256) {
		want := one
		if modulo(k, wide(x)) == zero {
			want = zero
		}
		if got, e := field.Exp(k, x, near(k, -1)); got != want || e != api.OK {
			t.Fatalf("Exp(%d, %x, m - 1) = %x, %d", k, x, got, e)
		}
	})
}
