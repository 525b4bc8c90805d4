package fees_test

import (
	"math/big"
	"testing"

	"waybill/api"
	"waybill/chance"
	"waybill/fees"
)

// checkNextBase holds NextBase against its model (P18.8, P0.2), and to what follows (P18.11), and tells the error.
func checkNextBase(t *testing.T, base api.U256, limit, used uint64) api.Errno {
	t.Helper()
	want, wantE := modelNextBase(base, limit, used)
	next, e := fees.NextBase(base, limit, used)
	if next != want || e != wantE {
		t.Errorf("NextBase(%x, %d, %d) = %x, %d, want %x, %d", base, limit, used, next, e, want, wantE)
	}
	if e != api.OK {
		return wantE
	}
	change := less(wide(next), wide(base))
	if used > limit/2 != (change.Sign() > 0) || change.Sign() < 0 && used >= limit/2 {
		t.Errorf("NextBase(%x, %d, %d) = %x: the wrong way", base, limit, used, next)
	}
	eighth := over(plus(wide(base), big.NewInt(7)), big.NewInt(8))
	if eighth.Sign() == 0 {
		eighth = big.NewInt(1)
	}
	if limit%2 == 0 && change.CmpAbs(eighth) > 0 {
		t.Errorf("NextBase(%x, %d, %d) = %x: more than an eighth", base, limit, used, next)
	}
	return wantE
}

// P18.8: the chapter's examples, and fees that other programs tell: three of go-ethereum's tests, and mainnet's first step, from block 12965000 to the next.
func TestExamplesOfNextBase(t *testing.T) {
	for _, c := range []struct {
		base        api.U256
		limit, used uint64
		want        api.U256
		e           api.Errno
	}{
		{api.U256{1000}, 30, 15, api.U256{1000}, api.OK},
		{api.U256{1000}, 30, 30, api.U256{1125}, api.OK},
		{api.U256{1000}, 30, 0, api.U256{875}, api.OK},
		{api.U256{1}, 30, 16, api.U256{2}, api.OK},
		{api.U256{1}, 30, 0, api.U256{1}, api.OK},
		{api.U256{7}, 30, 0, api.U256{7}, api.OK},
		{api.U256{8}, 30, 0, api.U256{7}, api.OK},
		{api.U256{8}, 30, 1, api.U256{8}, api.OK},
		{zero, 30, 30, one, api.OK},
		{zero, 30, 0, zero, api.OK},
		{zero, 30, 15, zero, api.OK},
		{api.U256{1000}, 3, 3, api.U256{1250}, api.OK},
		{api.U256{1000}, 3, 2, api.U256{1125}, api.OK},
		{api.U256{1000}, 3, 1, api.U256{1000}, api.OK},
		{api.U256{1000}, 3, 0, api.U256{875}, api.OK},
		{api.U256{1000}, 2, 0, api.U256{875}, api.OK},
		{api.U256{5}, 1, 0, zero, api.ErrArg},
		{api.U256{5}, 0, 0, zero, api.ErrArg},
		{api.U256{5}, 1, 2, zero, api.ErrArg},
		{top, 0, most, zero, api.ErrArg},
		{api.U256{5}, 10, 11, zero, api.ErrFeeLimit},
		{top, 2, 3, zero, api.ErrFeeLimit},
		{top, most - 1, most, zero, api.ErrFeeLimit},
		{top, 2, 2, zero, api.ErrFeeWide},
		{top, 2, 1, top, api.OK},
		{top, most, 1<<63 - 1, top, api.OK},
		{top, most, 1 << 63, zero, api.ErrFeeWide},
		{top, most, 0, api.U256{0, 0, 0, 7 << 61}, api.OK},
		{api.U256{1000000000}, 20000000, 10000000, api.U256{1000000000}, api.OK},
		{api.U256{1000000000}, 20000000, 9000000, api.U256{987500000}, api.OK},
		{api.U256{1000000000}, 20000000, 11000000, api.U256{1012500000}, api.OK},
		{api.U256{1000000000}, 30029122, 30025257, api.U256{1124967822}, api.OK},
	} {
		if next, e := fees.NextBase(c.base, c.limit, c.used); next != c.want || e != c.e {
			t.Errorf("NextBase(%x, %d, %d) = %x, %d, want %x, %d", c.base, c.limit, c.used, next, e, c.want, c.e)
		}
		checkNextBase(t, c.base, c.limit, c.used)
	}
}

// P18.8, P18.11: all small ones.
func TestSmallNextBase(t *testing.T) {
	for base := range uint64(70) {
		for limit := range uint64(20) {
			for used := range limit + 3 {
				checkNextBase(t, api.U256{base}, limit, used)
			}
		}
	}
}

// P18.8, P18.11: by chance, the gas near the target, the limit, and nothing.
func TestNextBase(t *testing.T) {
	row := chance.Row(1830)
	seen := map[api.Errno]int{}
	for range 40000 {
		limit := anySmall(&row)
		if row.Below(10) == 0 {
			limit = most - uint64(row.Below(4))
		}
		off := uint64(row.Below(5)) - 2
		used := []uint64{0, limit/2 + off, limit + off, anySmall(&row), anySmall(&row) % max(limit, 1)}[row.Below(5)]
		seen[checkNextBase(t, anyOf(&row, zero, top), limit, used)]++
	}
	for _, e := range []api.Errno{api.OK, api.ErrArg, api.ErrFeeLimit, api.ErrFeeWide} {
		if seen[e] < 300 {
			t.Errorf("not all cases are looked at: %v", seen)
		}
	}
}

// P18.8: the greatest base fee that can still rise, and the one above it.
func TestNextBaseEdges(t *testing.T) {
	row := chance.Row(1831)
	for n := range 500 {
		limit := max(anySmall(&row), 2)
		used := []uint64{limit, limit/2 + 1, limit - (limit-limit/2)/3}[n%3]
		base := last(wide(top), func(base *big.Int) bool {
			_, e := modelNextBase(narrow(base), limit, used)
			return e == api.OK
		})
		if e := checkNextBase(t, narrow(base), limit, used); e != api.OK {
			t.Errorf("NextBase(%x, %d, %d): %d", base, limit, used, e)
		}
		if e := checkNextBase(t, narrow(plus(base, big.NewInt(1))), limit, used); e != api.ErrFeeWide {
			t.Errorf("NextBase(%x and 1, %d, %d): %d", base, limit, used, e)
		}
	}
}

// P18.9: the chapter's examples, and all that can be put together of numbers at the edges.
func TestExamplesOfNextExcess(t *testing.T) {
	for _, c := range []struct {
		excess, used, target, want uint64
		e                          api.Errno
	}{
		{0, 131072, 393216, 0, api.OK},
		{393216, 393216, 393216, 393216, api.OK},
		{0, 393215, 393216, 0, api.OK},
		{0, 393216, 393216, 0, api.OK},
		{0, 393217, 393216, 1, api.OK},
		{393217, 0, 393216, 1, api.OK},
		{most, 1, 0, 0, api.ErrFeeWide},
		{1, most, 0, 0, api.ErrFeeWide},
		{most, 1, 1, most, api.OK},
		{1, most, 1, most, api.OK},
		{most, 2, 1, 0, api.ErrFeeWide},
		{most, most, most, most, api.OK},
		{most, most, most - 1, 0, api.ErrFeeWide},
		{most, most, 0, 0, api.ErrFeeWide},
		{most, 0, 0, most, api.OK},
		{most, 0, most, 0, api.OK},
		{0, 0, most, 0, api.OK},
		{0, 0, 0, 0, api.OK},
		{1 << 63, 1 << 63, 0, 0, api.ErrFeeWide},
		{1 << 63, 1 << 63, 1, most, api.OK},
	} {
		if next, e := fees.NextExcess(c.excess, c.used, c.target); next != c.want || e != c.e {
			t.Errorf("NextExcess(%d, %d, %d) = %d, %d, want %d, %d", c.excess, c.used, c.target, next, e, c.want, c.e)
		}
	}
	edges := []uint64{0, 1, 2, 131072, 1<<32 - 1, 1 << 32, 1<<63 - 1, 1 << 63, 1<<63 + 1, most - 1, most}
	for _, excess := range edges {
		for _, used := range edges {
			for _, target := range append(edges, excess, used, excess+used, excess+used+1, excess+used-1) {
				checkNextExcess(t, excess, used, target)
			}
		}
	}
}

// checkNextExcess holds NextExcess against its model (P18.9, P0.2).
func checkNextExcess(t *testing.T, excess, used, target uint64) {
	t.Helper()
	want, wantE := modelNextExcess(excess, used, target)
	if next, e := fees.NextExcess(excess, used, target); next != want || e != wantE {
		t.Errorf("NextExcess(%d, %d, %d) = %d, %d, want %d, %d", excess, used, target, next, e, want, wantE)
	}
}

// P18.9, P18.11: by chance; it never falls, if excess rises, and once it does not fit it never fits again.
func TestNextExcess(t *testing.T) {
	row := chance.Row(1832)
	for range 20000 {
		excess, used := anySmall(&row), anySmall(&row)
		target := []uint64{anySmall(&row), excess + used, excess + used + 1, excess + used - 1}[row.Below(4)]
		checkNextExcess(t, excess, used, target)
		more := max(excess, excess+uint64(row.Below(2))+anySmall(&row)>>1)
		a, e := fees.NextExcess(excess, used, target)
		b, f := fees.NextExcess(more, used, target)
		if e == api.OK && f == api.OK && a > b || e != api.OK && f == api.OK {
			t.Errorf("NextExcess falls from %d, %d to %d, %d with the excess %d and %d", a, e, b, f, excess, more)
		}
	}
}

// checkBlobBase holds BlobBase against its model (P18.10, P0.2) and tells the error.
func checkBlobBase(t *testing.T, excess, fraction uint64) api.Errno {
	t.Helper()
	want, wantE := modelBlobBase(excess, fraction)
	if price, e := fees.BlobBase(excess, fraction); price != want || e != wantE {
		t.Errorf("BlobBase(%d, %d) = %x, %d, want %x, %d", excess, fraction, price, e, want, wantE)
	}
	return wantE
}

// P18.10: the chapter's examples, and prices that go-ethereum's tests tell.
func TestExamplesOfBlobBase(t *testing.T) {
	for _, c := range []struct {
		excess, fraction, want uint64
		e                      api.Errno
	}{
		{0, 3338477, 1, api.OK},
		{2314057, 3338477, 1, api.OK},
		{2314058, 3338477, 2, api.OK},
		{10 * 1024 * 1024, 3338477, 23, api.OK},
		{5, 1, 136, api.OK},
		{2, 1, 6, api.OK},
		{4, 2, 6, api.OK},
		{3, 1, 16, api.OK},
		{6, 2, 18, api.OK},
		{4, 1, 49, api.OK},
		{8, 2, 50, api.OK},
		{5, 2, 11, api.OK},
		{50000000, 2225652, 5709098764, api.OK},
		{1, 1, 2, api.OK},
		{0, 1, 1, api.OK},
		{0, most, 1, api.OK},
		{1, most, 1, api.OK},
		{most, most, 2, api.OK},
		{most, 1 << 63, 7, api.OK},
		{1, 0, 0, api.ErrArg},
		{0, 0, 0, api.ErrArg},
		{most, 0, 0, api.ErrArg},
		{most, 1, 0, api.ErrFeeWide},
		{most, 2, 0, api.ErrFeeWide},
		{1000, 1, 0, api.ErrFeeWide},
	} {
		if price, e := fees.BlobBase(c.excess, c.fraction); price != (api.U256{c.want}) || e != c.e {
			t.Errorf("BlobBase(%d, %d) = %x, %d, want %d, %d", c.excess, c.fraction, price, e, c.want, c.e)
		}
		checkBlobBase(t, c.excess, c.fraction)
	}
	for i, want := range []int64{1, 5, 12, 20, 25, 25, 20, 14, 8, 4, 2} { // of the model
		if all := terms(5, 1); len(all) != 11 || all[i].Int64() != want {
			t.Errorf("a: %v", all)
		}
	}
}

// fractions are those that mainnet has had, and edges.
func fractions() []uint64 {
	return []uint64{1, 2, 3, 7, 1000, 131072, 2225652, 3338477, 5007716, 8346193, 11684671, 1<<32 - 1, 1 << 32, 1<<63 - 1, 1 << 63, most - 1, most}
}

// P18.10, P18.11: the greatest excess whose price is told, and the next one; there are fewer than 1024 terms that are not 0.
func TestBlobBaseEdges(t *testing.T) {
	for _, fraction := range fractions() {
		end := last(whole(most), func(excess *big.Int) bool {
			_, e := modelBlobBase(excess.Uint64(), fraction)
			return e == api.OK
		}).Uint64()
		if e := checkBlobBase(t, end, fraction); e != api.OK {
			t.Errorf("BlobBase(%d, %d): %d", end, fraction, e)
		}
		if n := len(terms(end, fraction)); n >= 1024 {
			t.Errorf("BlobBase(%d, %d) has %d terms", end, fraction, n)
		}
		for _, past := range []uint64{1, 2, 3, 1000, 1 << 40} {
			if excess := end + past; excess > end {
				if e := checkBlobBase(t, excess, fraction); e != api.ErrFeeWide {
					t.Errorf("BlobBase(%d, %d): %d, %d fits", excess, fraction, e, end)
				}
			}
			checkBlobBase(t, end-min(end, past), fraction)
		}
		checkBlobBase(t, most, fraction)
	}
}

// P18.10: small ones, and by chance, as often wide as not.
func TestBlobBase(t *testing.T) {
	for fraction := range uint64(8) {
		for excess := range uint64(8 * 200) {
			checkBlobBase(t, excess, fraction)
		}
	}
	row := chance.Row(1833)
	seen := map[api.Errno]int{}
	for range 4000 {
		fraction := anySmall(&row)
		excess := anySmall(&row)
		if fraction > 0 && row.Below(4) > 0 {
			n := over(times(whole(fraction), whole(row.Next()%200000)), big.NewInt(1000))
			if excess = n.Uint64(); !n.IsUint64() {
				excess = most
			}
		}
		seen[checkBlobBase(t, excess, fraction)]++
	}
	for _, e := range []api.Errno{api.OK, api.ErrArg, api.ErrFeeWide} {
		if seen[e] < 30 {
			t.Errorf("not all cases are looked at: %v", seen)
		}
	}
}

// P18.11: BlobBase(0, f) is 1; it never falls, if excess rises, and once it does not fit it never fits again.
func TestBlobBaseRises(t *testing.T) {
	for _, fraction := range fractions() {
		before, e := fees.BlobBase(0, fraction)
		if before != one || e != api.OK {
			t.Errorf("BlobBase(0, %d) = %x, %d", fraction, before, e)
		}
		step := fraction/7 + 1
		for excess := step; excess >= step && excess/step < 2000; excess += step {
			next, f := fees.BlobBase(excess, fraction)
			if e != api.OK && f == api.OK || f == api.OK && wide(next).Cmp(wide(before)) < 0 {
				t.Errorf("BlobBase(%d, %d) = %x, %d, and %x, %d a step ahead", excess, fraction, next, f, before, e)
			}
			before, e = next, f
		}
	}
	row := chance.Row(1834)
	for range 200 {
		f := max(anySmall(&row), 1)
		if price, e := fees.BlobBase(0, f); price != one || e != api.OK {
			t.Errorf("BlobBase(0, %d) = %x, %d", f, price, e)
		}
	}
}
