package fees_test

import (
	"math/big"
	"slices"
	"testing"

	"waybill/api"
	"waybill/chance"
	"waybill/tx"
)

const (
	most  = 1<<64 - 1 // the greatest limb
	kinds = 5
)

var (
	zero   = api.U256{}
	one    = api.U256{1}
	top    = api.U256{most, most, most, most} // 2^256 - 1
	nobody = api.Address{}
)

// wide tells x for math/big, narrow goes back: limb by limb, as the document's Words have a number.

func wide(x api.U256) *big.Int {
	n := new(big.Int)
	for _, limb := range slices.Backward(x[:]) {
		n.Lsh(n, 64).Add(n, whole(limb))
	}
	return n
}

func narrow(n *big.Int) api.U256 {
	if n.Sign() < 0 || n.BitLen() > 256 {
		panic("not below 2^256: " + n.String())
	}
	var x api.U256
	for i := range x {
		x[i] = new(big.Int).Rsh(n, uint(64*i)).Uint64()
	}
	return x
}

// whole tells a uint64 for math/big, so that no sum and no product of it is cut.
func whole(v uint64) *big.Int { return new(big.Int).SetUint64(v) }

func plus(x, y *big.Int) *big.Int { return new(big.Int).Add(x, y) }

func less(x, y *big.Int) *big.Int { return new(big.Int).Sub(x, y) }

func times(x, y *big.Int) *big.Int { return new(big.Int).Mul(x, y) }

func over(x, y *big.Int) *big.Int { return new(big.Int).Quo(x, y) }

// isWide tells whether a number is 2^256 or more.
func isWide(n *big.Int) bool { return n.BitLen() > 256 }

// The models follow the chapter's words, with whole numbers of any size. What it leaves to tx.Draft is its own, which has tests of its own.

func modelIntrinsic(x api.Tx) (uint64, api.Errno) {
	if e := tx.Draft(x); e != api.OK {
		return 0, e
	}
	gas := uint64(21000)
	if x.Create {
		gas += 32000
	}
	for i, b := range x.Data {
		if b == 0 {
			gas += 4
		} else {
			gas += 16
		}
		if x.Create && i%32 == 0 { // with it another 32 bytes begin
			gas += 2
		}
	}
	for _, entry := range x.Access {
		gas += 2400
		for range entry.Keys {
			gas += 1900
		}
	}
	for range x.Auths {
		gas += 25000
	}
	return gas, api.OK
}

func modelFloor(x api.Tx) (uint64, api.Errno) {
	if e := tx.Draft(x); e != api.OK {
		return 0, e
	}
	gas := uint64(21000)
	for _, b := range x.Data {
		if b == 0 {
			gas += 10
		} else {
			gas += 40
		}
	}
	return gas, api.OK
}

func modelEnough(x api.Tx) api.Errno {
	need, e := modelIntrinsic(x)
	if e != api.OK {
		return e
	}
	if least, _ := modelFloor(x); x.Gas < need || x.Gas < least {
		return api.ErrFeeGas
	}
	return api.OK
}

func modelBlobGas(x api.Tx) uint64 {
	gas := uint64(0)
	for range x.BlobHashes {
		gas += 131072
	}
	if x.Type == 3 {
		return gas
	}
	return 0
}

func modelPrice(x api.Tx, base api.U256) (price, tip api.U256, e api.Errno) {
	if e := tx.Draft(x); e != api.OK {
		return zero, zero, e
	}
	at := wide(base)
	if x.Type == 0 || x.Type == 1 {
		if wide(x.Price).Cmp(at) < 0 {
			return zero, zero, api.ErrFeeLow
		}
		return x.Price, narrow(less(wide(x.Price), at)), api.OK
	}
	if wide(x.Tip).Cmp(wide(x.Cap)) > 0 {
		return zero, zero, api.ErrFeeTip
	}
	if wide(x.Cap).Cmp(at) < 0 {
		return zero, zero, api.ErrFeeLow
	}
	given := wide(x.Tip)
	if room := less(wide(x.Cap), at); room.Cmp(given) < 0 {
		given = room
	}
	return narrow(plus(at, given)), narrow(given), api.OK
}

// modelCap tells the cap of a type.
func modelCap(x api.Tx) *big.Int {
	if x.Type == 0 || x.Type == 1 {
		return wide(x.Price)
	}
	return wide(x.Cap)
}

func modelCost(x api.Tx) (api.U256, api.Errno) {
	if e := tx.Draft(x); e != api.OK {
		return zero, e
	}
	n := times(whole(x.Gas), modelCap(x))
	n = plus(n, wide(x.Value))
	n = plus(n, times(whole(modelBlobGas(x)), wide(x.BlobCap)))
	if isWide(n) {
		return zero, api.ErrFeeWide
	}
	return narrow(n), api.OK
}

func modelCharge(x api.Tx, base api.U256, used uint64) (burnt, paid api.U256, e api.Errno) {
	price, tip, e := modelPrice(x, base)
	switch {
	case e != api.OK:
		return zero, zero, e
	case used > x.Gas:
		return zero, zero, api.ErrFeeLimit
	case isWide(times(whole(used), wide(price))):
		return zero, zero, api.ErrFeeWide
	}
	return narrow(times(whole(used), wide(base))), narrow(times(whole(used), wide(tip))), api.OK
}

func modelNextBase(base api.U256, limit, used uint64) (api.U256, api.Errno) {
	if limit < 2 {
		return zero, api.ErrArg
	}
	if used > limit {
		return zero, api.ErrFeeLimit
	}
	at, spent, target := wide(base), whole(used), over(whole(limit), big.NewInt(2))
	part := times(big.NewInt(8), target)
	switch spent.Cmp(target) {
	case 0:
		return base, api.OK
	case -1:
		return narrow(less(at, over(times(at, less(target, spent)), part))), api.OK
	}
	d := over(times(at, less(spent, target)), part)
	if d.Sign() == 0 {
		d = big.NewInt(1)
	}
	if isWide(plus(at, d)) {
		return zero, api.ErrFeeWide
	}
	return narrow(plus(at, d)), api.OK
}

func modelNextExcess(excess, used, target uint64) (uint64, api.Errno) {
	s := plus(whole(excess), whole(used))
	if s.Cmp(whole(target)) < 0 {
		return 0, api.OK
	}
	s = less(s, whole(target))
	if s.BitLen() > 64 {
		return 0, api.ErrFeeWide
	}
	return s.Uint64(), api.OK
}

// terms are the a(i) that are not 0, up to the first that is 2^256 or more.
func terms(excess, fraction uint64) []*big.Int {
	all := []*big.Int{whole(fraction)}
	for i := int64(1); ; i++ {
		a := over(times(all[i-1], whole(excess)), times(whole(fraction), big.NewInt(i)))
		if a.Sign() == 0 {
			return all
		}
		all = append(all, a)
		if isWide(a) {
			return all
		}
	}
}

func modelBlobBase(excess, fraction uint64) (api.U256, api.Errno) {
	if fraction == 0 {
		return zero, api.ErrArg
	}
	sum := new(big.Int)
	for _, a := range terms(excess, fraction) {
		if isWide(a) {
			return zero, api.ErrFeeWide
		}
		sum = plus(sum, a)
	}
	if isWide(sum) {
		return zero, api.ErrFeeWide
	}
	return narrow(over(sum, whole(fraction))), api.OK
}

// anyNumber and anySmall tell numbers of any length, often small ones.

func anyNumber(row *chance.Row) api.U256 {
	if row.Below(4) == 0 {
		return api.U256{uint64(row.Below(200))}
	}
	return row.Number()
}

func anySmall(row *chance.Row) uint64 { return row.Next() >> row.Below(65) }

// anyOf tells one of some numbers, or one that is next to it, or any other.
func anyOf(row *chance.Row, all ...api.U256) api.U256 {
	if row.Below(4) == 0 {
		return anyNumber(row)
	}
	n := plus(wide(all[row.Below(len(all))]), big.NewInt(int64(row.Below(3)-1)))
	if n.Sign() < 0 || isWide(n) {
		return anyNumber(row)
	}
	return narrow(n)
}

// anyData tells a text in which 0 is seldom or often, or all there is.
func anyData(row *chance.Row, n int) []byte {
	data := row.Text(n)
	often := 1 + row.Below(8)
	for i := range data {
		if row.Below(often) == 0 {
			data[i] = 0
		}
	}
	return data
}

func anyHash(row *chance.Row) api.Hash { return api.Hash(row.Text(32)) }

func anyAuth(row *chance.Row) api.Auth {
	return api.Auth{Chain: anyNumber(row), Address: api.Address(row.Text(20)), Nonce: anySmall(row), Parity: uint64(row.Below(256)), R: anyNumber(row), S: anyNumber(row)}
}

func anyEntries(row *chance.Row, count int) []api.AccessEntry {
	var all []api.AccessEntry
	for range row.Below(count + 1) {
		entry := api.AccessEntry{Address: api.Address(row.Text(20))}
		for range row.Below(count + 1) {
			entry.Keys = append(entry.Keys, anyHash(row))
		}
		all = append(all, entry)
	}
	return all
}

// anyDraft tells a transaction of a type of which tx.Draft answers OK; V, R and S are any numbers.
func anyDraft(row *chance.Row, kind int) api.Tx {
	x := api.Tx{Type: kind, Chain: anySmall(row) >> 1, Nonce: anySmall(row), Gas: anySmall(row), To: api.Address(row.Text(20)), Value: anyNumber(row), Data: anyData(row, row.Below(140)), V: anyNumber(row), R: anyNumber(row), S: anyNumber(row)}
	if kind < 3 && row.Below(2) == 0 {
		x.Create, x.To = true, nobody
	}
	if kind < 2 {
		x.Price = anyNumber(row)
	} else {
		x.Cap = anyNumber(row)
		x.Tip = anyOf(row, x.Cap, zero)
	}
	if kind > 0 {
		x.Access = anyEntries(row, 4)
	}
	switch kind {
	case 3:
		x.BlobCap = anyNumber(row)
		for range 1 + row.Below(6) {
			h := anyHash(row)
			h[0] = 1
			x.BlobHashes = append(x.BlobHashes, h)
		}
	case 4:
		for range 1 + row.Below(4) {
			x.Auths = append(x.Auths, anyAuth(row))
		}
	}
	return x
}

// plain tells the least draft of a type.
func plain(kind int) api.Tx {
	return []api.Tx{{}, {Type: 1}, {Type: 2}, {Type: 3, BlobHashes: []api.Hash{{1}}}, {Type: 4, Auths: []api.Auth{{}}}}[kind]
}

// capped tells a draft of a type with that cap, and that cap of the tip, if the type has one.
func capped(kind int, tip, all api.U256) api.Tx {
	x := plain(kind)
	if kind < 2 {
		x.Price = all
	} else {
		x.Tip, x.Cap = tip, all
	}
	return x
}

// cloned tells a transaction in memory of its own.
func cloned(x api.Tx) api.Tx {
	x.Data, x.Access, x.BlobHashes, x.Auths = slices.Clone(x.Data), slices.Clone(x.Access), slices.Clone(x.BlobHashes), slices.Clone(x.Auths)
	for i := range x.Access {
		x.Access[i].Keys = slices.Clone(x.Access[i].Keys)
	}
	return x
}

type fault struct {
	e   api.Errno
	put func(*api.Tx)
}

// faults tells what tx.Draft may find wrong in a type, in the order in which it looks; each may be put beside the others.
func faults(kind int) []fault {
	all := []fault{
		{api.ErrTxType, func(x *api.Tx) { x.Type += 5 }},
		{api.ErrTxField, func(x *api.Tx) {
			if kind < 2 {
				x.Tip[3] = 1
			} else {
				x.Price[3] = 1
			}
		}},
		{api.ErrTxChain, func(x *api.Tx) { x.Chain = 1 << 63 }},
	}
	if kind >= 3 {
		all = append(all, fault{api.ErrTxTo, func(x *api.Tx) { x.Create, x.To = true, nobody }})
	}
	if kind == 3 {
		all = append(all, fault{api.ErrTxEmpty, func(x *api.Tx) { x.BlobHashes = nil }})
	}
	if kind == 4 {
		all = append(all, fault{api.ErrAuth, func(x *api.Tx) { x.Auths = append(slices.Clone(x.Auths), api.Auth{Parity: 256}) }})
	}
	return all
}

// eachSet hands over all sets of faults and the error that is named first of a set's (OK: of none).
func eachSet(all []fault, f func(put func(*api.Tx), want api.Errno)) {
	for set := range 1 << len(all) {
		want := api.OK
		for i, one := range slices.Backward(all) {
			if set>>i&1 == 1 {
				want = one.e
			}
		}
		f(func(x *api.Tx) {
			for i, one := range slices.Backward(all) {
				if set>>i&1 == 1 {
					one.put(x)
				}
			}
		}, want)
	}
}

// last tells the greatest number up to a top one of which something holds that holds of 0, and, once it does not, of no greater one.
func last(high *big.Int, holds func(*big.Int) bool) *big.Int {
	low := new(big.Int)
	for high = new(big.Int).Set(high); low.Cmp(high) < 0; {
		mid := over(plus(plus(low, high), big.NewInt(1)), big.NewInt(2))
		if holds(mid) {
			low = mid
		} else {
			high = less(mid, big.NewInt(1))
		}
	}
	return low
}

// The helpers themselves: an error in them would hide one in the program.
func TestHelpers(t *testing.T) {
	row := chance.Row(1800)
	for range 200 {
		if x := row.Number(); narrow(wide(x)) != x {
			t.Errorf("%x is not there and back", x)
		}
		n := whole(row.Next())
		if got := last(whole(most), func(m *big.Int) bool { return m.Cmp(n) <= 0 }); got.Cmp(n) != 0 {
			t.Errorf("last: %d, want %d", got, n)
		}
	}
	if isWide(wide(top)) || !isWide(plus(wide(top), wide(one))) {
		t.Error("isWide")
	}
	for kind := range kinds {
		if e := tx.Draft(plain(kind)); e != api.OK {
			t.Errorf("the least one of type %d: %d", kind, e)
		}
		for range 200 {
			x := anyDraft(&row, kind)
			if e := tx.Draft(x); e != api.OK || !tx.Same(x, cloned(x)) {
				t.Errorf("anyDraft of type %d: %d", kind, e)
			}
		}
		eachSet(faults(kind), func(put func(*api.Tx), want api.Errno) {
			x := anyDraft(&row, kind)
			put(&x)
			if e := tx.Draft(x); e != want {
				t.Errorf("faults of type %d: %d, want %d", kind, e, want)
			}
		})
	}
}
