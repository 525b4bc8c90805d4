package fees_test

import (
	"math/big"
	"testing"

	"waybill/api"
	"waybill/chance"
	"waybill/fees"
)

// checkPrice holds Price against its model (P18.5, P0.2) and tells the error.
func checkPrice(t *testing.T, x api.Tx, base api.U256) api.Errno {
	t.Helper()
	wantPrice, wantTip, want := modelPrice(x, base)
	if price, tip, e := fees.Price(x, base); price != wantPrice || tip != wantTip || e != want {
		t.Errorf("Price(%+v, %x) = %x, %x, %d, want %x, %x, %d", x, base, price, tip, e, wantPrice, wantTip, want)
	}
	return want
}

// checkCost holds Cost against its model (P18.6, P0.2) and tells the error.
func checkCost(t *testing.T, x api.Tx) api.Errno {
	t.Helper()
	wantSum, want := modelCost(x)
	if sum, e := fees.Cost(x); sum != wantSum || e != want {
		t.Errorf("Cost(%+v) = %x, %d, want %x, %d", x, sum, e, wantSum, want)
	}
	return want
}

// checkCharge holds Charge against its model (P18.7, P0.2) and tells the error.
func checkCharge(t *testing.T, x api.Tx, base api.U256, used uint64) api.Errno {
	t.Helper()
	wantBurnt, wantPaid, want := modelCharge(x, base, used)
	burnt, paid, e := fees.Charge(x, base, used)
	if burnt != wantBurnt || paid != wantPaid || e != want {
		t.Errorf("Charge(%+v, %x, %d) = %x, %x, %d, want %x, %x, %d", x, base, used, burnt, paid, e, wantBurnt, wantPaid, want)
	}
	return want
}

// P18.5: the chapter's examples and their neighbours, of all types.
func TestExamplesOfPrice(t *testing.T) {
	for _, c := range []struct {
		tip, all, base uint64
		price, given   uint64
		e              api.Errno
	}{
		{2, 10, 0, 2, 2, api.OK},
		{2, 10, 5, 7, 2, api.OK},
		{2, 10, 7, 9, 2, api.OK},
		{2, 10, 8, 10, 2, api.OK},
		{2, 10, 9, 10, 1, api.OK},
		{2, 10, 10, 10, 0, api.OK},
		{2, 10, 11, 0, 0, api.ErrFeeLow},
		{11, 10, 5, 0, 0, api.ErrFeeTip},
		{11, 10, 11, 0, 0, api.ErrFeeTip},
		{10, 10, 0, 10, 10, api.OK},
		{10, 10, 3, 10, 7, api.OK},
		{0, 10, 3, 3, 0, api.OK},
		{0, 0, 0, 0, 0, api.OK},
		{0, 0, 1, 0, 0, api.ErrFeeLow},
		{1, 0, 0, 0, 0, api.ErrFeeTip},
	} {
		for kind := 2; kind < kinds; kind++ {
			x := capped(kind, api.U256{c.tip}, api.U256{c.all})
			if price, tip, e := fees.Price(x, api.U256{c.base}); price != (api.U256{c.price}) || tip != (api.U256{c.given}) || e != c.e {
				t.Errorf("Price of type %d, Tip %d, Cap %d at %d = %x, %x, %d", kind, c.tip, c.all, c.base, price, tip, e)
			}
			checkPrice(t, x, api.U256{c.base})
		}
	}
	for _, c := range []struct {
		all, base uint64
		tip       uint64
		e         api.Errno
	}{{7, 5, 2, api.OK}, {7, 8, 0, api.ErrFeeLow}, {7, 7, 0, api.OK}, {7, 6, 1, api.OK}, {7, 0, 7, api.OK}, {0, 0, 0, api.OK}, {0, 1, 0, api.ErrFeeLow}, {0, most, 0, api.ErrFeeLow}} {
		for kind := range 2 {
			want := c.all
			if c.e != api.OK {
				want = 0
			}
			x := capped(kind, zero, api.U256{c.all})
			if price, tip, e := fees.Price(x, api.U256{c.base}); price != (api.U256{want}) || tip != (api.U256{c.tip}) || e != c.e {
				t.Errorf("Price of type %d, Price %d at %d = %x, %x, %d", kind, c.all, c.base, price, tip, e)
			}
			checkPrice(t, x, api.U256{c.base})
		}
	}
}

// P18.5: numbers by chance, often next to each other, and at the ends of what there is; the base fee, the tip and the price fit together.
func TestPrice(t *testing.T) {
	row := chance.Row(1820)
	seen := map[api.Errno]int{}
	for n := range 20000 {
		kind := n % kinds
		all := anyNumber(&row)
		tip := anyOf(&row, zero, all)
		base := anyOf(&row, zero, all, tip, top)
		if room := less(wide(all), wide(tip)); room.Sign() >= 0 && row.Below(3) == 0 {
			base = anyOf(&row, narrow(room))
		}
		x := capped(kind, tip, all)
		e := checkPrice(t, x, base)
		seen[e]++
		if e != api.OK {
			continue
		}
		price, given, _ := fees.Price(x, base)
		if plus(wide(base), wide(given)).Cmp(wide(price)) != 0 || wide(price).Cmp(wide(all)) > 0 {
			t.Errorf("Price(%+v, %x) = %x, %x: not the base fee and the tip together, or above the cap", x, base, price, given)
		}
	}
	if seen[api.OK] < 1000 || seen[api.ErrFeeLow] < 1000 || seen[api.ErrFeeTip] < 1000 {
		t.Errorf("not all cases are looked at: %v", seen)
	}
	for kind := range kinds {
		for _, tip := range []api.U256{zero, one, top} {
			for _, base := range []api.U256{zero, one, {most - 1, most, most, most}, top} {
				checkPrice(t, capped(kind, tip, top), base)
			}
		}
	}
}

// P18.6: the chapter's examples; of each type the cap that it has, the tip counts for nothing; no part is forgotten.
func TestExamplesOfCost(t *testing.T) {
	blobs := []api.Hash{{1}, {1}}
	for _, c := range []struct {
		x    api.Tx
		want api.U256
		e    api.Errno
	}{
		{api.Tx{Type: 3, Gas: 2, Cap: api.U256{3}, Value: api.U256{5}, BlobHashes: blobs, BlobCap: one}, api.U256{262155}, api.OK},
		{api.Tx{Type: 3, Gas: 2, Cap: api.U256{0, 0, 0, 1 << 63}, BlobHashes: blobs}, zero, api.ErrFeeWide},
		{api.Tx{Type: 2, Gas: 2, Cap: api.U256{0, 0, 0, 1 << 63}}, zero, api.ErrFeeWide},
		{api.Tx{Gas: 2, Price: api.U256{3}, Value: api.U256{5}}, api.U256{11}, api.OK},
		{api.Tx{Type: 1, Gas: 2, Price: api.U256{3}, Value: api.U256{5}}, api.U256{11}, api.OK},
		{api.Tx{Type: 2, Gas: 2, Tip: api.U256{100}, Cap: api.U256{3}, Value: api.U256{5}}, api.U256{11}, api.OK},
		{api.Tx{Type: 3, Gas: 2, Tip: api.U256{100}, Cap: api.U256{3}, Value: api.U256{5}, BlobHashes: blobs}, api.U256{11}, api.OK},
		{api.Tx{Type: 4, Gas: 2, Tip: api.U256{100}, Cap: api.U256{3}, Value: api.U256{5}, Auths: make([]api.Auth, 2)}, api.U256{11}, api.OK},
		{api.Tx{Type: 3, BlobHashes: blobs, BlobCap: api.U256{7}}, api.U256{7 * 262144}, api.OK},
		{api.Tx{}, zero, api.OK},
		{api.Tx{Value: top}, top, api.OK},
		{api.Tx{Value: top, Price: top}, top, api.OK},
		{api.Tx{Gas: 1, Price: top}, top, api.OK},
		{api.Tx{Gas: 1, Price: top, Value: one}, zero, api.ErrFeeWide},
		{api.Tx{Gas: 1, Price: one, Value: top}, zero, api.ErrFeeWide},
		{api.Tx{Gas: most, Price: api.U256{most}}, api.U256{1, most - 1}, api.OK},
		{api.Tx{Gas: most, Price: top}, zero, api.ErrFeeWide},
		{api.Tx{Type: 3, BlobHashes: blobs[:1], BlobCap: api.U256{0, 0, 0, 1<<47 - 1}}, api.U256{0, 0, 0, (1<<47 - 1) << 17}, api.OK},
		{api.Tx{Type: 3, BlobHashes: blobs[:1], BlobCap: api.U256{0, 0, 0, 1 << 47}}, zero, api.ErrFeeWide},
		{api.Tx{Type: 3, Gas: 1, Cap: api.U256{0, 0, 0, 1 << 63}, BlobHashes: blobs[:1], BlobCap: api.U256{0, 0, 0, 1 << 46}}, zero, api.ErrFeeWide},
		{api.Tx{Type: 3, Value: api.U256{0, 0, 0, 1 << 63}, BlobHashes: blobs[:1], BlobCap: api.U256{0, 0, 0, 1 << 46}}, zero, api.ErrFeeWide},
	} {
		if sum, e := fees.Cost(c.x); sum != c.want || e != c.e {
			t.Errorf("Cost(%+v) = %x, %d, want %x, %d", c.x, sum, e, c.want, c.e)
		}
		checkCost(t, c.x)
	}
}

// P18.6: by chance, and just at 2^256: with that Value it is 2^256 - 1, with 1 more it is not told.
func TestCost(t *testing.T) {
	row := chance.Row(1821)
	seen := map[api.Errno]int{}
	for n := range 20000 {
		x := anyDraft(&row, n%kinds)
		if row.Below(2) == 0 { // so that the products fit more often
			x.Gas >>= 32
			x.Price[3], x.Cap[3], x.BlobCap[3] = x.Price[3]>>40, x.Cap[3]>>40, x.BlobCap[3]>>40
		}
		seen[checkCost(t, x)]++
		x.Value = zero
		fee, e := modelCost(x)
		if e != api.OK {
			continue
		}
		x.Value = narrow(less(wide(top), wide(fee)))
		if sum, e := fees.Cost(x); sum != top || e != api.OK {
			t.Errorf("Cost(%+v) = %x, %d, want 2^256 - 1", x, sum, e)
		}
		if fee != zero {
			x.Value = narrow(plus(wide(x.Value), big.NewInt(1)))
			if sum, e := fees.Cost(x); sum != zero || e != api.ErrFeeWide {
				t.Errorf("Cost(%+v) = %x, %d, want ErrFeeWide", x, sum, e)
			}
		}
	}
	if seen[api.OK] < 1000 || seen[api.ErrFeeWide] < 1000 {
		t.Errorf("not all cases are looked at: %v", seen)
	}
}

// P18.6: neither product may be cut, whatever the other parts are.
func TestCostEdges(t *testing.T) {
	row := chance.Row(1822)
	for range 2000 {
		gas := anySmall(&row) | 1
		highest := over(wide(top), whole(gas))
		for kind := range kinds {
			x := capped(kind, zero, narrow(highest))
			x.Gas = gas
			if e := checkCost(t, x); e != api.OK {
				t.Errorf("Cost(%+v): %d", x, e)
			}
			if gas > 1 {
				x = capped(kind, zero, narrow(plus(highest, big.NewInt(1))))
				x.Gas = gas
				if e := checkCost(t, x); e != api.ErrFeeWide {
					t.Errorf("Cost(%+v): %d", x, e)
				}
			}
		}
		blobs := make([]api.Hash, 1+row.Below(20))
		for i := range blobs {
			blobs[i][0] = 1
		}
		each := over(wide(top), whole(131072*uint64(len(blobs))))
		x := api.Tx{Type: 3, BlobHashes: blobs, BlobCap: narrow(each)}
		if e := checkCost(t, x); e != api.OK {
			t.Errorf("Cost(%+v): %d", x, e)
		}
		x.BlobCap = narrow(plus(each, big.NewInt(1)))
		if e := checkCost(t, x); e != api.ErrFeeWide {
			t.Errorf("Cost(%+v): %d", x, e)
		}
	}
}

// P18.7: by hand: what is burnt, what is paid, and the errors in their order.
func TestExamplesOfCharge(t *testing.T) {
	x := api.Tx{Type: 2, Tip: api.U256{2}, Cap: api.U256{10}, Gas: 100}
	tipped := x
	tipped.Tip = api.U256{11}
	old := api.Tx{Price: api.U256{10}, Gas: 100}
	full := api.Tx{Type: 1, Price: top, Gas: 2}
	half := api.U256{0, 0, 0, 1 << 63}
	for _, c := range []struct {
		x           api.Tx
		base        api.U256
		used        uint64
		burnt, paid api.U256
		e           api.Errno
	}{
		{x, api.U256{5}, 50, api.U256{250}, api.U256{100}, api.OK},
		{x, api.U256{9}, 50, api.U256{450}, api.U256{50}, api.OK},
		{x, api.U256{9}, 100, api.U256{900}, api.U256{100}, api.OK},
		{x, api.U256{10}, 100, api.U256{1000}, zero, api.OK},
		{x, zero, 100, zero, api.U256{200}, api.OK},
		{x, api.U256{9}, 0, zero, zero, api.OK},
		{x, api.U256{9}, 101, zero, zero, api.ErrFeeLimit},
		{x, api.U256{9}, most, zero, zero, api.ErrFeeLimit},
		{x, api.U256{11}, 101, zero, zero, api.ErrFeeLow},
		{x, api.U256{11}, 50, zero, zero, api.ErrFeeLow},
		{tipped, api.U256{11}, 101, zero, zero, api.ErrFeeTip},
		{old, api.U256{4}, 7, api.U256{28}, api.U256{42}, api.OK},
		{old, api.U256{11}, 101, zero, zero, api.ErrFeeLow},
		{full, one, 2, zero, zero, api.ErrFeeWide},
		{full, one, 3, zero, zero, api.ErrFeeLimit},
		{full, one, 1, one, api.U256{most - 1, most, most, most}, api.OK},
		{full, top, 1, top, zero, api.OK},
		{full, top, 2, zero, zero, api.ErrFeeWide},
		{full, zero, 2, zero, zero, api.ErrFeeWide},
		// Each of the two would fit, both together do not.
		{api.Tx{Price: half, Gas: 2}, api.U256{0, 0, 0, 1 << 62}, 2, zero, zero, api.ErrFeeWide},
		{api.Tx{Type: 4, Tip: api.U256{0, 0, 0, 1 << 62}, Cap: top, Gas: 2, Auths: make([]api.Auth, 1)}, api.U256{0, 0, 0, 1 << 62}, 2, zero, zero, api.ErrFeeWide},
		// Gas times the cap would not fit: it is not asked.
		{api.Tx{Type: 2, Tip: one, Cap: top, Gas: most}, one, most, api.U256{most}, api.U256{most}, api.OK},
	} {
		if burnt, paid, e := fees.Charge(c.x, c.base, c.used); burnt != c.burnt || paid != c.paid || e != c.e {
			t.Errorf("Charge(%+v, %x, %d) = %x, %x, %d, want %x, %x, %d", c.x, c.base, c.used, burnt, paid, e, c.burnt, c.paid, c.e)
		}
		checkCharge(t, c.x, c.base, c.used)
	}
}

// P18.7: by chance: together they are used times the price, and no more than Gas times the cap.
func TestCharge(t *testing.T) {
	row := chance.Row(1823)
	seen := map[api.Errno]int{}
	for n := range 20000 {
		x := anyDraft(&row, n%kinds)
		base := anyOf(&row, zero, narrow(modelCap(x)), x.Tip)
		used := []uint64{x.Gas, x.Gas - 1, x.Gas + 1, x.Gas >> 1, 0, anySmall(&row)}[row.Below(6)]
		e := checkCharge(t, x, base, used)
		seen[e]++
		if e != api.OK {
			continue
		}
		price, _, _ := fees.Price(x, base)
		burnt, paid, _ := fees.Charge(x, base, used)
		both := plus(wide(burnt), wide(paid))
		if both.Cmp(times(whole(used), wide(price))) != 0 || both.Cmp(times(whole(x.Gas), modelCap(x))) > 0 {
			t.Errorf("Charge(%+v, %x, %d) = %x, %x: not what is paid in all, or more than the caps", x, base, used, burnt, paid)
		}
	}
	for _, e := range []api.Errno{api.OK, api.ErrFeeTip, api.ErrFeeLow, api.ErrFeeLimit, api.ErrFeeWide} {
		if seen[e] < 500 {
			t.Errorf("not all cases are looked at: %v", seen)
		}
	}
}

// P18.7: just below 2^256 and just there.
func TestChargeEdges(t *testing.T) {
	row := chance.Row(1824)
	for n := range 2000 {
		used := anySmall(&row) | 2
		price := over(wide(top), whole(used))
		base := over(price, plus(wide(anyNumber(&row)), big.NewInt(1)))
		tip := less(price, base)
		for kind := range kinds {
			x := capped(kind, narrow(tip), narrow(price))
			x.Gas = used + uint64(n)%3
			if x.Gas < used {
				x.Gas = used
			}
			if e := checkCharge(t, x, narrow(base), used); e != api.OK {
				t.Errorf("Charge(%+v, %x, %d): %d", x, base, used, e)
			}
			x.Price, x.Cap, x.Tip = zero, zero, zero
			if kind < 2 {
				x.Price = narrow(plus(price, big.NewInt(1)))
			} else {
				x.Tip, x.Cap = narrow(plus(tip, big.NewInt(1))), narrow(plus(price, big.NewInt(1)))
			}
			if e := checkCharge(t, x, narrow(base), used); e != api.ErrFeeWide {
				t.Errorf("Charge(%+v, %x, %d): %d", x, base, used, e)
			}
		}
	}
}
