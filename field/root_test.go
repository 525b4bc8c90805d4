package field_test

import (
	"math/big"
	"testing"

	"waybill/api"
	"waybill/chance"
	"waybill/field"
)

// modelRoot tells what Root must: whether x has a root, and the even one.
func modelRoot(x api.U256) (api.U256, bool) {
	p := modelModulus(api.FieldP)
	root := new(big.Int).ModSqrt(new(big.Int).Mod(wide(x), p), p)
	if root == nil {
		return zero, false
	}
	if root.Bit(0) == 1 {
		root.Sub(p, root)
	}
	return narrow(root), true
}

// checkRoot holds Root and Residue of x against math/big.
func checkRoot(t *testing.T, x api.U256) {
	t.Helper()
	want, square := modelRoot(x)
	got, e := field.Root(x)
	if got != want || square != (e == api.OK) || !square && e != api.ErrFieldRoot {
		t.Fatalf("Root(%x) = %x, %d, want %x", x, got, e, want)
	}
	if r := field.Residue(x); r != big.Jacobi(wide(x), modelModulus(api.FieldP)) {
		t.Fatalf("Residue(%x) = %d", x, r)
	}
}

// P4.6, P4.7
func TestRoot(t *testing.T) {
	row := chance.Row(12)
	for _, x := range edges() {
		checkRoot(t, x)
	}
	for v := range uint64(200) {
		checkRoot(t, num(v))
		checkRoot(t, near(api.FieldP, -int64(v)))
		checkRoot(t, near(api.FieldP, int64(v)))
	}
	for range 300 {
		checkRoot(t, row.Number())
	}
}

// P4.6, P4.7: of squares, and of what is a square's opposite, which is none (p - 1 is none).
func TestRootOfSquares(t *testing.T) {
	row := chance.Row(13)
	numbers := edges()
	for range 200 {
		numbers = append(numbers, row.Number())
	}
	for _, x := range numbers {
		if modulo(api.FieldP, wide(x)) == zero {
			continue
		}
		square := modulo(api.FieldP, new(big.Int).Mul(wide(x), wide(x)))
		even := modulo(api.FieldP, wide(x))
		if even[0]%2 == 1 {
			even = modulo(api.FieldP, new(big.Int).Neg(wide(x)))
		}
		if got, e := field.Root(square); got != even || e != api.OK || field.Residue(square) != 1 {
			t.Fatalf("the square of %x: %x, %d; Residue %d", x, got, e, field.Residue(square))
		}
		opposite := modulo(api.FieldP, new(big.Int).Neg(wide(square)))
		if got, e := field.Root(opposite); got != zero || e != api.ErrFieldRoot || field.Residue(opposite) != -1 {
			t.Fatalf("the opposite of the square of %x: %x, %d; Residue %d", x, got, e, field.Residue(opposite))
		}
	}
}

// P4.6, P4.7: the chapter's example 5, and the same numbers with p more, where 256 bits hold them.
func TestRootExamples(t *testing.T) {
	p := api.FieldP
	for _, c := range []struct {
		x, root api.U256
		e       api.Errno
		is      int
	}{
		{zero, zero, api.OK, 0},
		{near(p, 0), zero, api.OK, 0},
		{one, near(p, -1), api.OK, 1},
		{near(p, 1), near(p, -1), api.OK, 1},
		{num(4), num(2), api.OK, 1},
		{near(p, 4), num(2), api.OK, 1},
		{num(9), near(p, -3), api.OK, 1},
		{num(16), num(4), api.OK, 1},
		{near(p, -1), zero, api.ErrFieldRoot, -1},
		{near(p, -4), zero, api.ErrFieldRoot, -1},
	} {
		if root, e := field.Root(c.x); root != c.root || e != c.e {
			t.Errorf("Root(%x) = %x, %d", c.x, root, e)
		}
		if is := field.Residue(c.x); is != c.is {
			t.Errorf("Residue(%x) = %d", c.x, is)
		}
	}
}

// P4.7, what follows: Euler; and a product's residue is that of its factors.
func TestEuler(t *testing.T) {
	row := chance.Row(14)
	half := narrow(new(big.Int).Rsh(modelModulus(api.FieldP), 1))
	for range 100 {
		x, y := row.Number(), row.Number()
		power, _ := field.Exp(api.FieldP, x, half)
		if (field.Residue(x) == 1) != (power == one) {
			t.Fatalf("Residue(%x) = %d, the power is %x", x, field.Residue(x), power)
		}
		product, _ := field.Mul(api.FieldP, x, y)
		if field.Residue(product) != field.Residue(x)*field.Residue(y) {
			t.Fatalf("Residue of the product of %x and %x", x, y)
		}
	}
}
