package field_test

import (
	"math/big"
	"slices"
	"testing"

	"waybill/api"
	"waybill/chance"
	"waybill/field"
)

// modelInverse tells what Inverse must, of any x that is not 0.
func modelInverse(k int, x api.U256) api.U256 {
	return narrow(new(big.Int).ModInverse(wide(x), modelModulus(k)))
}

// P4.4
func TestInverse(t *testing.T) {
	checkEach(200, func(k int, x api.U256) {
		got, e := field.Inverse(k, x)
		if modulo(k, wide(x)) == zero {
			if got != zero || e != api.ErrFieldZero {
				t.Fatalf("Inverse(%d, %x) = %x, %d", k, x, got, e)
			}
			return
		}
		if got != modelInverse(k, x) || e != api.OK {
			t.Fatalf("Inverse(%d, %x) = %x, %d", k, x, got, e)
		}
		if product, e := field.Mul(k, x, got); product != one || e != api.OK {
			t.Fatalf("x times Inverse(%d, %x) = %x, %d", k, x, product, e)
		}
	})
}

// P4.4: the chapter's example 4, for both kinds; the other kind's modulus is not 0.
func TestInverseExamples(t *testing.T) {
	for _, k := range kinds {
		half := narrow(new(big.Int).Rsh(wide(near(k, 1)), 1))
		other := near(1-k, 0)
		for _, c := range []struct {
			x, y api.U256
			e    api.Errno
		}{
			{one, one, api.OK},
			{num(2), half, api.OK},
			{half, num(2), api.OK},
			{near(k, -1), near(k, -1), api.OK},
			{near(k, 1), one, api.OK},
			{near(k, 2), half, api.OK},
			{other, modelInverse(k, other), api.OK},
			{zero, zero, api.ErrFieldZero},
			{near(k, 0), zero, api.ErrFieldZero},
		} {
			if y, e := field.Inverse(k, c.x); y != c.y || e != c.e {
				t.Errorf("Inverse(%d, %x) = %x, %d, want %x, %d", k, c.x, y, e, c.y, c.e)
			}
		}
	}
}

// full tells n numbers that are not 0 modulo either of the two, equal ones and great ones among them.
func full(row *chance.Row, n int) []api.U256 {
	list := []api.U256{one, one, top, near(0, -1), near(0, 1), near(1, -1), near(1, 1), num(2)}
	for len(list) < n {
		if x := row.Number(); modulo(0, wide(x)) != zero && modulo(1, wide(x)) != zero {
			list = append(list, x)
		}
	}
	return list[:n]
}

// P4.5: the inverse of each, in their order, of lists of all lengths.
func TestInverses(t *testing.T) {
	row := chance.Row(6)
	for _, k := range kinds {
		for n := range 70 {
			list := full(&row, n)
			got, e := field.Inverses(k, list)
			if len(got) != n || e != api.OK {
				t.Fatalf("Inverses of %d numbers: %d of them, %d", n, len(got), e)
			}
			for i, x := range list {
				if got[i] != modelInverse(k, x) {
					t.Fatalf("Inverses of %d numbers: %x of %x", n, got[i], x)
				}
			}
		}
	}
}

// P4.5: as many as are allowed.
func TestInversesMost(t *testing.T) {
	row := chance.Row(7)
	for _, k := range kinds {
		list := full(&row, api.MaxList)
		got, e := field.Inverses(k, list)
		if len(got) != api.MaxList || e != api.OK {
			t.Fatalf("%d numbers, %d", len(got), e)
		}
		for i, x := range list {
			if modulo(k, new(big.Int).Mul(wide(x), wide(got[i]))) != one || wide(got[i]).Cmp(modelModulus(k)) >= 0 {
				t.Fatalf("Inverses of MaxList numbers: %x of %x", got[i], x)
			}
		}
	}
}

// P4.5: the chapter's example 4; P0.4: nothing is nothing.
func TestInversesExamples(t *testing.T) {
	for _, k := range kinds {
		for _, c := range []struct {
			list, want []api.U256
			e          api.Errno
		}{
			{nil, nil, api.OK},
			{[]api.U256{}, nil, api.OK},
			{[]api.U256{num(2), zero}, nil, api.ErrFieldZero},
			{[]api.U256{one, near(k, -1)}, []api.U256{one, near(k, -1)}, api.OK},
			{[]api.U256{near(k, 1)}, []api.U256{one}, api.OK},
			{[]api.U256{zero}, nil, api.ErrFieldZero},
			{[]api.U256{near(k, 0)}, nil, api.ErrFieldZero},
			{[]api.U256{zero, near(k, 0)}, nil, api.ErrFieldZero},
		} {
			if got, e := field.Inverses(k, c.list); !slices.Equal(got, c.want) || e != c.e {
				t.Errorf("Inverses(%d, %x) = %x, %d", k, c.list, got, e)
			}
		}
	}
}

// P4.5: a 0 or an m at any place; P0.2: with it there is no list.
func TestInversesZero(t *testing.T) {
	row := chance.Row(8)
	for _, k := range kinds {
		for _, n := range []int{1, 2, 3, 10} {
			for place := range n {
				for _, nought := range []api.U256{zero, near(k, 0)} {
					list := full(&row, n)
					list[place] = nought
					if got, e := field.Inverses(k, list); got != nil || e != api.ErrFieldZero {
						t.Errorf("Inverses of %d numbers, %x at %d: %x, %d", n, nought, place, got, e)
					}
				}
			}
		}
		for _, place := range []int{0, api.MaxList / 2, api.MaxList - 1} {
			list := full(&row, api.MaxList)
			list[place] = near(k, 0)
			if got, e := field.Inverses(k, list); got != nil || e != api.ErrFieldZero {
				t.Errorf("Inverses of MaxList numbers, m at %d: %d numbers, %d", place, len(got), e)
			}
		}
	}
}

// P4.5: too many are told ahead of a 0 among them.
func TestInversesLong(t *testing.T) {
	row := chance.Row(9)
	for _, k := range kinds {
		for _, n := range []int{api.MaxList + 1, 2 * api.MaxList} {
			list := full(&row, n)
			if got, e := field.Inverses(k, list); got != nil || e != api.ErrLong {
				t.Errorf("Inverses of %d numbers: %d of them, %d", n, len(got), e)
			}
			for _, nought := range []api.U256{zero, near(k, 0)} {
				list[n/2] = nought
				if got, e := field.Inverses(k, list); got != nil || e != api.ErrLong {
					t.Errorf("Inverses of %d numbers with a 0: %d of them, %d", n, len(got), e)
				}
			}
		}
	}
}

// P0.3: the list that is handed in stays as it was, its room beyond the end too, and what stands there counts for nothing.
func TestInversesKeepList(t *testing.T) {
	row := chance.Row(10)
	for _, k := range kinds {
		for _, n := range []int{0, 1, 2, 20} {
			whole := append(full(&row, n), zero, near(k, 0), top)
			if n > 0 {
				whole[0] = top // not below the modulus: it must not be brought below it in place
			}
			before := slices.Clone(whole)
			got, e := field.Inverses(k, whole[:n])
			if len(got) != n || e != api.OK {
				t.Errorf("the room beyond %d numbers counts: %d numbers, %d", n, len(got), e)
			}
			field.Inverses(k, whole) // an error
			if !slices.Equal(whole, before) {
				t.Errorf("a list of %d numbers, or its room, was written to", n)
			}
		}
	}
}

// P0.3, P0.6: two answers share no memory, and a caller who writes over a list changes nothing.
func TestInversesApart(t *testing.T) {
	row := chance.Row(11)
	for _, k := range kinds {
		list := full(&row, 20)
		first, _ := field.Inverses(k, list)
		second, _ := field.Inverses(k, list)
		want := slices.Clone(second)
		clear(first[:cap(first)])
		if !slices.Equal(second, want) {
			t.Error("two answers share memory")
		}
		third, _ := field.Inverses(k, list)
		clear(list[:cap(list)])
		if !slices.Equal(third, want) {
			t.Error("an answer shares memory with the list, or is another one the next time")
		}
	}
}
